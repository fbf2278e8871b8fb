/- Forcing: the contracts of the program's last, of its three beginnings, of colouredFrom, and of ForceOnce, ForceAll, PowerAll, SkewAll, IsForcing and FortOutside. -/
import Derived.Handy
import Derived.Test.YtfphpilabfpmjaaForcJ
import Derived.Test.YtfphpilabfpmjaaAround
import Derived.Deep.DeepCutAuto
import Derived.Deep.RegionHeld3
import Derived.Deep.QuietTactic
namespace Go.Proofs.Ytfphpilabfpmjaa.forc
open Go.RowKit P2 words edges ints good adjs fns sets rets covs bags bitsI ups func gridr
set_option linter.unusedVariables false

theorem cellsC_at {sk : Bool} : ∀ {L : List Nat} {i d : Nat}, L[i]? = some d → (cellsC sk L)[i * 2]? = some (.int .u64 (d : Int)) ∧ (cellsC sk L)[i * 2 + 1]? = some (.bool sk)
  | [], i, d, h => by simp at h
  | a :: L, 0, d, h => by
    obtain rfl : a = d := by simpa using h
    exact ⟨rfl, rfl⟩
  | a :: L, i + 1, d, h => by
    have ih := cellsC_at (sk := sk) (L := L) (i := i) (d := d) (by simpa using h)
    rw [show (i + 1) * 2 = i * 2 + 1 + 1 from by omega]
    show (Value.int _ _ :: Value.bool _ :: cellsC sk L)[i * 2 + 1 + 1]? = _ ∧ (Value.int _ _ :: Value.bool _ :: cellsC sk L)[i * 2 + 1 + 1 + 1]? = _
    rw [List.getElem?_cons_succ, List.getElem?_cons_succ, List.getElem?_cons_succ, List.getElem?_cons_succ]
    exact ih
/-- the colouring behind a begin of a kind: 0 plain, 1 power, 2 skew -/
def bgN (n : Nat) (l : List Ed) (kind c : Nat) : Nat := if kind = 1 then arN l n c else c
def bgS (kind : Nat) : Bool := kind == 2
def rchN (n : Nat) (l : List Ed) (kind c : Nat) : Nat := lastN n l (bgS kind) (bgN n l kind c)
theorem ar_lt {n : Nat} {l : List Ed} (c : Nat) : arN l n c < 2 ^ n := num_ltN _ _
theorem bg_lt {n : Nat} {l : List Ed} {kind c : Nat} (hc : c < 2 ^ n) : bgN n l kind c < 2 ^ n := by
  unfold bgN
  split
  · exact ar_lt c
  · exact hc
theorem rch_lt {n : Nat} {l : List Ed} {kind c : Nat} (hc : c < 2 ^ n) : rchN n l kind c < 2 ^ n := last_ltN (bg_lt hc)
set_option maxHeartbeats 2000000 in
set_option maxRecDepth 100000 in
theorem last_any (n c : Nat) (sk : Bool) (v : Value) (l : List Ed) (w : World) (h : Nums w v (clos l n)) (hg : P2.Good (n : Int) l) (hn : n ≤ 8) (hc : c < 2 ^ n) :
    Calls Try.prog 95 #[.agg #[.int .u64 (c : Int), .bool sk], v] w fun e w' => e = .returned (.int .u64 (lastN n l sk c : Int)) ∧ Below w.heap.size w w' := by
  obtain ⟨A, cc, rfl, -⟩ := h.form
  have hlen := clos_len l n
  have b0 : Below w.heap.size w (w.alloc (.cells #[.int .u64 (c : Int), .bool sk] 55)) := (Below.refl _ _).alloc (Nat.le_refl _) _
  have HRD := Lib.hid (rounds_any n c sk (.slice A (clos l n).length cc) l _ (h.below b0) hg hn hc)
  rw [hlen] at HRD ⊢
  obtain ⟨p0, p1, -, -⟩ := (Blk.new w 55 #[.int .u64 (c : Int), .bool sk]).two
  have HB0 := Lib.hid b0
  have HLA := Lib.hid (rnd_last n l sk 8 c)
  have hl1 := (rnd_len n l sk 8 c).1
  have hl2 := (rnd_len n l sk 8 c).2
  change 1 ≤ (rnds n l sk c).length at hl1
  change (rnds n l sk c).length ≤ 9 at hl2
  have HLL : Hid ((rnds n l sk c)[(rnds n l sk c).length - 1]? = some (lastN n l sk c)) := HLA.out
  clear h hg hlen hc b0 HLA
  generalize lastN n l sk c = y at *
  generalize rnds n l sk c = R at *
  obtain ⟨m, hm⟩ : ∃ m, R.length = m + 1 := ⟨R.length - 1, by omega⟩
  have HM := Lib.hid hm
  have hw1 : IntKind.i64.wrap (((m + 1 : Nat) : Int) - 1) = (m : Int) := by rw [show ((m + 1 : Nat) : Int) - 1 = (m : Int) from by omega]; exact IntWalk.i64_in _ (by omega)
  have hw2 : IntKind.i64.wrap (m : Int) = (m : Int) := IntWalk.i64_in _ (by omega)
  have hw3 : IntKind.i64.wrap ((m : Int) + 1 - 1) = (m : Int) := by rw [show (m : Int) + 1 - 1 = (m : Int) from by omega]; exact hw2
  have hw4 : (0 : Int) ≤ (m : Int) := by omega
  have hw5 : (m : Int) < (m : Int) + 1 := by omega
  rw [hm] at HRD
  clear hm hl1 hl2
  go_enter Try.func95, Try.ntmps95
  go_wp2_with fail
  refine HRD.out.mono ?_
  rintro e w1 ⟨A1, c1, rfl, o1, b1⟩
  have HB1 := Lib.hid (btrans HB0.out b1)
  have hcell := o1
  rcases hcell.2 with ⟨h_, h0⟩ | ⟨g, cap, cur, hv, hrest⟩
  · cases h0
  cases hv
  have q0 : w1.cell? ⟨g, m * 2, none⟩ = some (.int .u64 (y : Int)) := by
    have hl := HLL.out
    rw [HM.out, Nat.add_sub_cancel] at hl
    rw [o1.cellAt (m * 2) (by omega)]
    exact (cellsC_at hl).1
  clear hcell hrest o1 b1 p0 p1 HRD
  go_wp2_with fail
  go_ret
  exact ⟨rfl, HB1.out⟩
set_option maxHeartbeats 1000000 in
set_option maxRecDepth 100000 in
theorem beginPlain_any (n c : Nat) (v : Value) (l : List Ed) (w : World) (h : Nums w v (clos l n)) (hg : P2.Good (n : Int) l) (hn : n ≤ 8) (hc : c < 2 ^ n) :
    Calls Try.prog 56 #[v, .int .u64 (c : Int)] w fun e w' => e = .returned (.agg #[.int .u64 (bgN n l 0 c : Int), .bool (bgS 0)]) ∧ Below w.heap.size w w' := by
  have HB0 : Hid (Below w.heap.size w (w.alloc (.cells #[.int .u64 0, .bool false] 55))) := (Below.refl _ _).alloc (Nat.le_refl _) _
  obtain ⟨p0, p1, y0, y1⟩ := (Blk.new w 55 #[.int .u64 0, .bool false]).two
  clear h hg hc
  go_enter Try.func56, Try.ntmps56
  go_wp2_with fail
  obtain ⟨q0, q1, -, -⟩ := (Blk.new w 55 #[.int .u64 ((c : Nat) : Int), .bool false]).two
  refine bodyPost_ret (v := .agg #[.int .u64 ((c : Nat) : Int), .bool false]) (by simp [results, Try.results56, go_sem, q0, q1]) rfl ⟨rfl, (Below.refl _ _).alloc (Nat.le_refl _) _⟩
set_option maxHeartbeats 1000000 in
set_option maxRecDepth 100000 in
theorem beginPower_any (n c : Nat) (v : Value) (l : List Ed) (w : World) (h : Nums w v (clos l n)) (hg : P2.Good (n : Int) l) (hn : n ≤ 8) (hc : c < 2 ^ n) :
    Calls Try.prog 83 #[v, .int .u64 (c : Int)] w fun e w' => e = .returned (.agg #[.int .u64 (bgN n l 1 c : Int), .bool (bgS 1)]) ∧ Below w.heap.size w w' := by
  have HB0 : Hid (Below w.heap.size w (w.alloc (.cells #[.int .u64 0, .bool false] 55))) := (Below.refl _ _).alloc (Nat.le_refl _) _
  obtain ⟨p0, p1, y0, y1⟩ := (Blk.new w 55 #[.int .u64 0, .bool false]).two
  have HA := Lib.hid (fun (W : World) (hW : Below w.heap.size w W) => closedAround_any n c v l W (h.below hW) hg hn (Nat.lt_of_lt_of_le hc (pow_le hn)))
  clear h hg hc
  go_enter Try.func83, Try.ntmps83
  go_wp2_with fail
  refine (HA.out _ HB0.out).mono ?_
  rintro e w' ⟨rfl, rfl⟩
  go_wp2_with fail
  obtain ⟨q0, q1, -, -⟩ := (Blk.new w 55 #[.int .u64 ((arN l n c : Nat) : Int), .bool false]).two
  refine bodyPost_ret (v := .agg #[.int .u64 ((arN l n c : Nat) : Int), .bool false]) (by simp [results, Try.results83, go_sem, q0, q1]) rfl ⟨rfl, (Below.refl _ _).alloc (Nat.le_refl _) _⟩
set_option maxHeartbeats 1000000 in
set_option maxRecDepth 100000 in
theorem beginSkew_any (n c : Nat) (v : Value) (l : List Ed) (w : World) (h : Nums w v (clos l n)) (hg : P2.Good (n : Int) l) (hn : n ≤ 8) (hc : c < 2 ^ n) :
    Calls Try.prog 84 #[v, .int .u64 (c : Int)] w fun e w' => e = .returned (.agg #[.int .u64 (bgN n l 2 c : Int), .bool (bgS 2)]) ∧ Below w.heap.size w w' := by
  have HB0 : Hid (Below w.heap.size w (w.alloc (.cells #[.int .u64 0, .bool false] 55))) := (Below.refl _ _).alloc (Nat.le_refl _) _
  obtain ⟨p0, p1, y0, y1⟩ := (Blk.new w 55 #[.int .u64 0, .bool false]).two
  clear h hg hc
  go_enter Try.func84, Try.ntmps84
  go_wp2_with fail
  obtain ⟨q0, q1, -, -⟩ := (Blk.new w 55 #[.int .u64 ((c : Nat) : Int), .bool true]).two
  refine bodyPost_ret (v := .agg #[.int .u64 ((c : Nat) : Int), .bool true]) (by simp [results, Try.results84, go_sem, q0, q1]) rfl ⟨rfl, (Below.refl _ _).alloc (Nat.le_refl _) _⟩
/-- a function value that begins in one of the three ways -/
structure FnBeg (f : FuncId) (n : Nat) (l : List Ed) (kind : Nat) : Prop where
  enter : ∀ (args : Array Value) (W : World), (callFunc f args).run Try.prog W = .ok (.enter f args) W
  call : ∀ (W : World) (v : Value) (c : Nat), Nums W v (clos l n) → c < 2 ^ n → Calls Try.prog f #[v, .int .u64 (c : Int)] W fun e W' => e = .returned (.agg #[.int .u64 (bgN n l kind c : Int), .bool (bgS kind)]) ∧ Below W.heap.size W W'
set_option maxHeartbeats 4000000 in
set_option maxRecDepth 100000 in
theorem colouredFrom_yes (n kind : Nat) (f : FuncId) (v u : Value) (l : List Ed) (xs : List Int) (w : World) (h : Edges w v l) (hl : l.length ≤ 1048576) (hu : Ints w u xs) (hxl : xs.length ≤ 1048576) (hso : SetOk (n : Int) l xs) (hf : FnBeg f n l kind) :
    Calls Try.prog 63 #[.agg #[.int .i64 (n : Int), v], u, .func (.func f) #[] #[]] w fun e w' => e = .returned (.tuple #[.int .u64 (rchN n l kind (codeL xs) : Int), .bool true]) ∧ Below w.heap.size w w' := by
  obtain ⟨A, c, rfl, -⟩ := h.form
  have hent := hf.enter
  have HFC := Lib.hid hf.call
  have H := Lib.hid h
  have HU := Lib.hid hu
  have b0 : Below w.heap.size w (w.alloc (.cells #[.int .i64 (n : Int), .slice A l.length c] 29)) := (Below.refl _ _).alloc (Nat.le_refl _) _
  have g0 := Blk.new w 29 #[.int .i64 (n : Int), .slice A l.length c]
  obtain ⟨p0, p1, -, -⟩ := g0.two
  have HS := Lib.hid (hasSet_any (n : Int) (.slice A l.length c) u l xs _ (h.below b0) hl (hu.below b0) hxl)
  rw [okG_yes hso] at HS
  have HB0 := Lib.hid b0
  have HG0 := Lib.hid g0
  have HOK := Lib.hid hso
  have hn : n ≤ 8 := by have := hso.1.2.1; omega
  have HC := Lib.hid (code_set hso)
  clear h hu b0 g0 hso hf
  go_enter Try.func63, Try.ntmps63
  go_wp2_with fail
  refine HS.out.mono ?_
  rintro e w1 ⟨rfl, b1⟩
  have HE1 := Lib.hid (btrans HB0.out b1)
  have HG1 := Lib.hid (HG0.out.below b1 HG0.out.lt)
  clear p0 p1 b1 HS HB0 HG0
  obtain ⟨p0, p1, -, -⟩ := HG1.out.two
  have HCB := Lib.hid (closedBits_any n (.slice A l.length c) l w1 (H.out.below HE1.out) hl HOK.out.1 hn)
  go_wp2_with fail
  refine HCB.out.mono ?_
  rintro e w3 ⟨A3, c3, rfl, i3, b3⟩
  have HE3 := Lib.hid (btrans HE1.out b3)
  have HI3 := Lib.hid i3
  have HBO := Lib.hid (bitsOf_any u xs w3 (HU.out.below HE3.out) hxl (fun x hx => by have := HOK.out.2.1 x hx; omega))
  clear p0 p1 b3 i3 HCB
  go_wp2_with fail
  refine HBO.out.mono ?_
  rintro e w' ⟨rfl, rfl⟩
  have HBG := Lib.hid (HFC.out w3 _ (codeL xs) HI3.out HC.out)
  go_wp2_with fail
  refine HBG.out.mono ?_
  rintro e w4 ⟨rfl, b4⟩
  have HE4 := Lib.hid (btrans HE3.out b4)
  have HLA := Lib.hid (last_any n (bgN n l kind (codeL xs)) (bgS kind) _ l w4 (HI3.out.below b4) HOK.out.1 hn (bg_lt HC.out))
  clear b4 HBG HBO
  go_wp2_with fail
  refine HLA.out.mono ?_
  rintro e w5 ⟨rfl, b5⟩
  go_wp2_with fail
  go_ret2
  exact ⟨rfl, btrans HE4.out b5⟩
set_option maxHeartbeats 1000000 in
set_option maxRecDepth 100000 in
theorem colouredFrom_no (s : Int) (f : FuncId) (v u : Value) (l : List Ed) (xs : List Int) (w : World) (h : Edges w v l) (hl : l.length ≤ 1048576) (hu : Ints w u xs) (hxl : xs.length ≤ 1048576) (hso : ¬ SetOk s l xs) :
    Calls Try.prog 63 #[.agg #[.int .i64 s, v], u, .func (.func f) #[] #[]] w fun e w' => e = .returned (.tuple #[.int .u64 0, .bool false]) ∧ Below w.heap.size w w' := by
  obtain ⟨A, c, rfl, -⟩ := h.form
  have b0 : Below w.heap.size w (w.alloc (.cells #[.int .i64 s, .slice A l.length c] 29)) := (Below.refl _ _).alloc (Nat.le_refl _) _
  obtain ⟨p0, p1, -, -⟩ := (Blk.new w 29 #[.int .i64 s, .slice A l.length c]).two
  have HS := Lib.hid (hasSet_any s (.slice A l.length c) u l xs _ (h.below b0) hl (hu.below b0) hxl)
  rw [okG_no hso] at HS
  have HB0 := Lib.hid b0
  clear h hu b0 hso
  go_enter Try.func63, Try.ntmps63
  go_wp2_with fail
  refine HS.out.mono ?_
  rintro e w1 ⟨rfl, b1⟩
  go_wp2_with fail
  go_ret2
  exact ⟨rfl, btrans HB0.out b1⟩
end Go.Proofs.Ytfphpilabfpmjaa.forc
