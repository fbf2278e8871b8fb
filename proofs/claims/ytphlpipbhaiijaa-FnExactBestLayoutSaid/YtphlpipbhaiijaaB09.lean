/- The contracts of the model's l1Least and l1Most. -/
import Derived.Test.YtphlpipbhaiijaaB01
import Derived.Test.YtphlpipbhaiijaaProg
import Derived.WalkLawsBesides
import Derived.WalkSpells
import Derived.IntWalk
import Derived.Handy
import Derived.Test.YtphlpipbhaiijaaB08
import Derived.Test.YtphlpipbhaiijaaB07
import Derived.StillTailTactics
import Derived.Deep.DeepCutAuto
import Derived.Deep.RegionHeld3
import Derived.Deep.QuietTactic
import Derived.Test.YtphlpipbhaiijaaB05
namespace Go.Proofs.Ytphlpipbhaiijaa.minmax
open Go.RowKit P2 words

theorem l1Most_any (a b : Int) (w : World) : Calls Try.prog 66 #[.int .i64 a, .int .i64 b] w fun e w' => e = .returned (.int .i64 (max a b)) ∧ w = w' := by
  by_cases h : b < a
  · have hm : Hid (max a b = a) := Int.max_eq_left (by omega)
    go_enter Try.func66, Try.ntmps66
    go_wp2_with fail
    go_ret
    exact ⟨ret_int hm.out.symm, rfl⟩
  · have hm : Hid (max a b = b) := Int.max_eq_right (by omega)
    go_enter Try.func66, Try.ntmps66
    go_wp2_with fail
    go_ret
    exact ⟨ret_int hm.out.symm, rfl⟩
end Go.Proofs.Ytphlpipbhaiijaa.minmax

/- The contracts of EliminationWidth: of the program and of the model. -/
namespace Go.Proofs.Ytphlpipbhaiijaa.bags
open Go.RowKit P2 words edges ints good adjs fns sets rets covs reach each bitsI grid gridr
set_option linter.unusedVariables false

theorem ite_max (a b : Int) : (if b < a then a else b) = max b a := by split <;> omega
def RetN (w : World) (p : Prop) (x : Int) (e : Ending) (w' : World) : Prop := e = .returned (.tuple #[.int .i64 (szG p x), .bool (okG p)]) ∧ Below w.heap.size w w'
theorem RetN.yes {w w' : World} {p : Prop} {x : Int} (hp : p) (hb : Below w.heap.size w w') : RetN w p x (.returned (.tuple #[.int .i64 x, .bool true])) w' := ⟨by rw [szG_yes hp, okG_yes hp], hb⟩
theorem RetN.no {w w' : World} {p : Prop} {x : Int} (hp : ¬ p) (hb : Below w.heap.size w w') : RetN w p x (.returned (.tuple #[.int .i64 0, .bool false])) w' := ⟨by rw [szG_no hp, okG_no hp], hb⟩
theorem ints_take {w : World} {A : Option Addr} {c i : Nat} {tl : List Int} (h : Ints w (.slice A tl.length c) tl) (hi : i ≤ tl.length) (hc : i ≤ c) : Ints w (.slice A i c) (tl.take i) := by
  have h1 := apps.Reads.take (c' := c) h hi hc
  rw [apps.cellsI_take] at h1
  show Reads w 1 _ (tl.take i).length _
  rw [List.length_take, Nat.min_eq_left hi]
  exact h1
theorem ints_cap {w : World} {A : Option Addr} {c : Nat} {tl : List Int} (h : Ints w (.slice A tl.length c) tl) : tl.length ≤ c := by
  rcases Nat.eq_zero_or_pos tl.length with h0 | h0
  · omega
  · obtain ⟨A', c', e, hx⟩ := h
    cases e
    exact (hx h0).choose_spec.choose_spec.2.1
end Go.Proofs.Ytphlpipbhaiijaa.bags

/- The contracts of the program's widthAt and TreewidthOf. -/
namespace Go.Proofs.Ytphlpipbhaiijaa.costs
open Go.RowKit P2 words edges ints good adjs fns sets rets covs reach bags bitsI fronts
set_option linter.unusedVariables false

noncomputable def costW (l : List Ed) (n g x : Nat) : Int := ((nw (laterB n l (bitB g) x) n).length : Int)
theorem costW_le (l : List Ed) (n : Nat) (hn : n ≤ 8) (g x : Nat) : costW l n g x ≤ 100 := by
  unfold costW
  have := nw_len (laterB n l (bitB g) x) n
  omega
theorem costW_pos (l : List Ed) (n g x : Nat) : 0 ≤ costW l n g x := by unfold costW; omega
noncomputable def twV (s : Int) (l : List Ed) : Int := leastV s.toNat (costW l s.toNat) (-1)
theorem LcUp.low {n : Nat} {cost : Nat → Nat → Int} {C : Nat → Int} (hn : n ≤ 8) (h : LcUp n cost (-1) 0 C) (hc : ∀ g x, 0 ≤ cost g x) : -1 ≤ C 0 := by
  by_cases e : 2 ^ n - 1 = 0
  · have := h.1; rw [e] at this; omega
  · obtain ⟨⟨x, _, _, hC⟩, _⟩ := h.2.1 0 (by omega) (by omega)
    have := hc 0 x
    omega
theorem tw_lc {n : Nat} {l : List Ed} {C : Nat → Int} (hn : n ≤ 8) (h : LcUp n (costW l n) (-1) 0 C) : twV (n : Int) l = C 0 := by
  have e : twV (n : Int) l = leastV n (costW l n) (-1) := rfl
  rw [e]
  exact Least.is (lc_least hn h.1 (fun c hc => h.2.1 c (by omega) hc) (h.low hn (costW_pos l n)))
theorem own_litT {w : World} {B N c : Nat} {A : Option Addr} {cs : List Value} (h : w.ownsRow B 3 1 (.slice A N c) N cs) (hN : 0 < N) : ∃ g, A = some ⟨g, 0, none⟩ := by
  rcases h.2 with ⟨_, h1⟩ | ⟨g, cap, cur, h1, _⟩
  · omega
  · cases h1; exact ⟨g, rfl⟩
set_option maxHeartbeats 1000000 in
set_option maxRecDepth 100000 in
theorem widthClo_any (n g x b : Nat) (v : Value) (l : List Ed) (w : World) (hc : w.cell? ⟨b, 0, none⟩ = some v) (h : Nums w v (clos l n)) (hg : P2.Good (n : Int) l) (hn : n ≤ 8) (hx : x < n) (hgn : g < 2 ^ n) (hb : g.testBit x = false) :
    Calls Try.prog 129 #[.int .u64 (g : Int), .int .i64 (x : Int), .pointer (some ⟨b, 0, none⟩)] w fun e w' => e = .returned (.int .i64 (costW l n g x)) ∧ ∃ m, w' = w.drewN m := by
  have HB := Lib.hid (bagOf_any n x (bitB g) v l w h hg hn hx hb)
  rw [num_code hgn] at HB
  have hbl := bag_len (l := l) (G := bitB g) hx
  have hln := nw_len (laterB n l (bitB g) x) n
  have HCT := Lib.hid (fun (W : World) => count_any (numOf (bagB n l (bitB g) x) n) W (numOf_lt _ hn))
  rw [ones_num _ hn, hbl] at HCT
  have HV : Hid (costW l n g x = ((nw (laterB n l (bitB g) x) n).length : Int)) := rfl
  rw [HV.out]
  clear h hg hbl
  generalize numOf (bagB n l (bitB g) x) n = a at *
  generalize (nw (laterB n l (bitB g) x) n).length = rr at *
  have hr1 : ((rr + 1 : Nat) : Int) - 1 = (rr : Int) := by omega
  go_enter Try.func129, Try.ntmps129
  go_wp2_with fail
  refine HB.out.mono ?_
  rintro e w' ⟨rfl, m, rfl⟩
  go_wp2_with fail
  refine (HCT.out _).mono ?_
  rintro e w' ⟨rfl, rfl⟩
  go_wp2_with fail
  go_ret
  exact ⟨ret_int (by first | omega | simp), m, rfl⟩
theorem widthAt_any (n : Nat) (v : Value) (l : List Ed) (w : World) (h : Edges w v l) (hl : l.length ≤ 1048576) (hg : P2.Good (n : Int) l) (hn : n ≤ 8) :
    Calls Try.prog 78 #[.agg #[.int .i64 (n : Int), v]] w fun e w' => ∃ b A c, e = .returned (.func (.func 129) #[] #[.pointer (some ⟨b, 0, none⟩)]) ∧ w'.cell? ⟨b, 0, none⟩ = some (.slice A (clos l n).length c) ∧ Nums w' (.slice A (clos l n).length c) (clos l n) ∧ Below w.heap.size w w' := by
  obtain ⟨A, c, rfl, -⟩ := h.form
  have hmf : ∀ (fn : Fn) (first cap : Array Value) (w : World), (Instr.makeFunc fn first cap).run Try.prog w = .ok (.func fn first cap) w := fun _ _ _ _ => rfl
  have b0 : Below w.heap.size w (w.alloc (.cells #[.int .i64 (n : Int), .slice A l.length c] 29)) := (Below.refl _ _).alloc (Nat.le_refl _) _
  obtain ⟨p0, p1, -, -⟩ := (Blk.new w 29 #[.int .i64 (n : Int), .slice A l.length c]).two
  have HC := Lib.hid (closedBits_any n (.slice A l.length c) l _ (h.below b0) hl hg hn)
  clear h hg
  go_enter Try.func78, Try.ntmps78
  go_wp2_with fail
  refine HC.out.mono ?_
  rintro e w2 ⟨A3, c3, rfl, i3, b3⟩
  have HE2 := Lib.hid (btrans b0 b3)
  have HI := Lib.hid i3
  clear i3 b3 HC p0 p1 b0
  generalize hm : (clos l n).length = m at *
  have HM := Lib.hid hm
  clear hm
  go_wp2_with fail
  go_ret
  have h9 := HI.out
  rw [← HM.out] at h9 ⊢
  refine ⟨w2.heap.size, A3, c3, rfl, (Blk.new w2 56 #[.slice A3 (clos l n).length c3]).cell 0, h9.below ((Below.refl _ _).alloc (Nat.le_refl _) _), HE2.out.alloc HE2.out.size _⟩
end Go.Proofs.Ytphlpipbhaiijaa.costs

/- The contract of the closure of the program's cheapestOrder: does a node fit. -/
namespace Go.Proofs.Ytphlpipbhaiijaa.costs
open Go.RowKit P2 words edges ints good adjs fns sets rets covs reach bags bitsI fronts
set_option linter.unusedVariables false
set_option linter.unusedSimpArgs false

theorem max_if (a b : Int) : (if a < b then b else a) = max a b := by split <;> omega
set_option maxHeartbeats 1000000 in
set_option maxRecDepth 100000 in
theorem fits_any (n g x b b1 b2 : Nat) (cost : Nat → Nat → Int) (C : Nat → Int) (fid : FuncId) (A : Option Addr) (c : Nat) (w : World) (hn : n ≤ 8) (hg : g < 2 ^ n) (hx : x < n)
    (h1 : w.cell? ⟨b1, 0, none⟩ = some (.func (.func fid) #[] #[.pointer (some ⟨b, 0, none⟩)])) (h2 : w.cell? ⟨b2, 0, none⟩ = some (.slice A (2 ^ n) c)) (hr : Reads w 1 (.slice A (2 ^ n) c) (2 ^ n) (cellsI (rowF (2 ^ n) C)))
    (hent : ∀ (args : Array Value) (W : World), (callFunc fid args).run Try.prog W = .ok (.enter fid args) W)
    (HC : ∀ m, Calls Try.prog fid #[.int .u64 (g : Int), .int .i64 (x : Int), .pointer (some ⟨b, 0, none⟩)] (w.drewN m) fun e w' => e = .returned (.int .i64 (cost g x)) ∧ ∃ k, w' = (w.drewN m).drewN k) :
    Calls Try.prog 128 #[.int .u64 (g : Int), .int .i64 (x : Int), .pointer (some ⟨b1, 0, none⟩), .pointer (some ⟨b2, 0, none⟩)] w fun e w' => e = .returned (.bool (decide (max (cost g x) (C (g ||| 2 ^ x)) ≤ C 0))) ∧ ∃ m, w' = w.drewN m := by
  have hp := pow8 hn
  have hp0 := Nat.two_pow_pos n
  have hq := or_lt hg hx
  have hor := or_walk g x (by omega) (by omega)
  have hI : Ints w (.slice A (rowF (2 ^ n) C).length c) (rowF (2 ^ n) C) := by unfold Ints; rw [rowF_len]; exact hr
  obtain ⟨_, _, hf, hcc⟩ := hI.form
  rw [rowF_len] at hf
  cases hf
  obtain ⟨g9, o9, rfl, q0⟩ := hcc 0 _ (rowF_at hp0)
  rw [Nat.add_zero] at q0
  obtain ⟨_, _, e1, q1⟩ := hcc _ _ (rowF_at hq)
  cases e1
  have HCC := Lib.hid HC
  have hq1 : ((g ||| 2 ^ x : Nat) : Int) < ((2 ^ n : Nat) : Int) := by omega
  have hq2 : (0 : Int) ≤ ((g ||| 2 ^ x : Nat) : Int) := by omega
  have hz : (0 : Int) < ((2 ^ n : Nat) : Int) := by omega
  clear hr hI hcc HC
  generalize C (g ||| 2 ^ x) = u at *
  generalize C 0 = u0 at *
  generalize cost g x = cc at *
  generalize g ||| 2 ^ x = q at *
  generalize 2 ^ n = N at *
  go_enter Try.func128, Try.ntmps128
  go_wp2_with fail
  go_quiet (exact Calls.quiet_of (HCC.out _))
  rw [max_if]
  go_wp2_with fail
  go_ret
  exact ⟨rfl, _, rfl⟩
set_option maxHeartbeats 1000000 in
set_option maxRecDepth 100000 in
theorem fitting_any (n g x bg bf : Nat) (fit : Nat → Nat → Bool) (fid : FuncId) (caps : Array Value) (w : World) (hn : n ≤ 8) (hg : g < 2 ^ n) (hx : x < n)
    (h1 : w.cell? ⟨bg, 0, none⟩ = some (.int .u64 (g : Int))) (h2 : w.cell? ⟨bf, 0, none⟩ = some (.func (.func fid) #[] caps))
    (hent : ∀ (args : Array Value) (W : World), (callFunc fid args).run Try.prog W = .ok (.enter fid args) W)
    (HC : g.testBit x = false → Calls Try.prog fid (#[.int .u64 (g : Int), .int .i64 (x : Int)] ++ caps) w fun e w' => e = .returned (.bool (fit g x)) ∧ Below w.heap.size w w') :
    Calls Try.prog 131 #[.int .i64 (x : Int), .pointer (some ⟨bg, 0, none⟩), .pointer (some ⟨bf, 0, none⟩)] w fun e w' => e = .returned (.bool (!g.testBit x && fit g x)) ∧ Below w.heap.size w w' := by
  have hp := pow8 hn
  have HH := Lib.hid (has_any g x w (by omega) (by omega))
  cases hb : g.testBit x with
  | true =>
    rw [hb] at HH
    clear HC hb
    go_enter Try.func131, Try.ntmps131
    go_wp2_with fail
    refine HH.out.mono ?_
    rintro e w' ⟨rfl, rfl⟩
    go_wp2_with fail
    go_ret
    exact ⟨rfl, Below.refl _ _⟩
  | false =>
    rw [hb] at HH
    have HCC := Lib.hid (HC hb)
    clear HC hb
    go_enter Try.func131, Try.ntmps131
    go_wp2_with fail
    refine HH.out.mono ?_
    rintro e w' ⟨rfl, rfl⟩
    go_wp2_with fail
    refine HCC.out.mono ?_
    rintro e w4 ⟨rfl, b4⟩
    go_wp2_with fail
    go_ret
    exact ⟨by simp, b4⟩
theorem row0 {w : World} {B c : Nat} {g o : Nat} {F : List Int} {z : Int} (h : w.ownsRow B 3 1 (.slice (some ⟨g, o, none⟩) F.length c) F.length (cellsI F)) (hx : F[0]? = some z) : w.cell? ⟨g, o, none⟩ = some (.int .i64 z) := by
  obtain ⟨_, _, hf, hcc⟩ := (show Ints w (.slice (some ⟨g, o, none⟩) F.length c) F from Reads.of_own h).form
  cases hf
  obtain ⟨_, _, e, q⟩ := hcc 0 _ hx
  cases e
  exact q
def Apart' (u v : Value) : Prop := ∀ k, u.ownBlock = some k → v.ownBlock ≠ some k
def fitB (fit : Nat → Nat → Bool) (g : Nat) : Nat → Bool := fun x => !g.testBit x && fit g x
/-- the first order, k nodes long: the set of its nodes, and they -/
def ordN (n : Nat) (fit : Nat → Nat → Bool) : Nat → Option (Nat × List Int)
  | 0 => some (0, [])
  | k + 1 => (ordN n fit k).bind fun s => ((nw (fitB fit s.1) n)[0]?).map fun x => (s.1 ||| 2 ^ x.toNat, s.2 ++ [x])
theorem ordN_none {n : Nat} {fit : Nat → Nat → Bool} {k : Nat} (h : ordN n fit k = none) : ∀ j, ordN n fit (k + j) = none
  | 0 => h
  | j + 1 => by
    have := ordN_none h j
    show ordN n fit (k + j + 1) = none
    rw [ordN, this]; rfl
theorem ordN_ok {n : Nat} {fit : Nat → Nat → Bool} : ∀ {k : Nat} {g : Nat} {L : List Int}, ordN n fit k = some (g, L) → g < 2 ^ n ∧ L.length = k
  | 0, g, L, h => by
    cases h
    exact ⟨Nat.two_pow_pos n, rfl⟩
  | k + 1, g, L, h => by
    rw [ordN] at h
    cases hk : ordN n fit k with
    | none => rw [hk] at h; cases h
    | some s =>
      obtain ⟨g0, L0⟩ := s
      rw [hk] at h
      simp only [Option.bind_some] at h
      cases hx : (nw (fitB fit g0) n)[0]? with
      | none => rw [hx] at h; cases h
      | some x =>
        rw [hx] at h
        cases h
        obtain ⟨z, hz, h2⟩ := mem_nw.1 (List.mem_of_getElem? hx)
        have h3 := ordN_ok hk
        refine ⟨?_, by simp [h3.2]⟩
        obtain ⟨_, rfl⟩ := h2
        exact or_lt h3.1 (by simpa using hz)
noncomputable def ordL (n : Nat) (fit : Nat → Nat → Bool) : List Int := ((ordN n fit n).map (·.2)).getD []
set_option maxHeartbeats 4000000 in
set_option maxRecDepth 100000 in
theorem firstOrder_any (n : Nat) (fit : Nat → Nat → Bool) (fid : FuncId) (caps : Array Value) (w : World) (hn : n ≤ 8)
    (hent : ∀ (args : Array Value) (W : World), (callFunc fid args).run Try.prog W = .ok (.enter fid args) W)
    (HC : ∀ (W : World) (g x : Nat), Below w.heap.size w W → g < 2 ^ n → x < n → g.testBit x = false → Calls Try.prog fid (#[.int .u64 (g : Int), .int .i64 (x : Int)] ++ caps) W fun e w' => e = .returned (.bool (fit g x)) ∧ Below W.heap.size W w') :
    Calls Try.prog 82 #[.int .i64 (n : Int), .func (.func fid) #[] caps] w fun e w' => ∃ A c, e = .returned (.tuple #[.slice A (ordL n fit).length c, .bool (ordN n fit n).isSome]) ∧ w'.ownsRow w.heap.size 3 1 (.slice A (ordL n fit).length c) (ordL n fit).length (cellsI (ordL n fit)) ∧ Below w.heap.size w w' := by
  obtain ⟨i0, hi, hz0, hz1, hz2⟩ := info_parts infoInt
  have hp := pow8 hn
  have HCC := Lib.hid HC
  have HENT := Lib.hid hent
  have HB0 : Hid (Below w.heap.size w ((w.alloc (.cells #[.func (.func fid) #[] caps] 84)).alloc (.cells #[.int .u64 0] 68))) := ((Below.refl _ _).alloc (Nat.le_refl _) _).alloc (by simp) _
  have HF0 := Lib.hid ((Blk.new w 84 #[.func (.func fid) #[] caps]).alloc (.cells #[.int .u64 0] 68))
  have HG0 : Hid (Blk ((w.alloc (.cells #[.func (.func fid) #[] caps] 84)).alloc (.cells #[.int .u64 0] 68)) (w.heap.size + 1) 68 #[.int .u64 0]) := by
    have h_ := Blk.new (w.alloc (.cells #[.func (.func fid) #[] caps] 84)) 68 #[.int .u64 0]
    rw [World.size_alloc] at h_
    exact h_
  have hmf : ∀ (fn : Fn) (first cap : Array Value) (w : World), (Instr.makeFunc fn first cap).run Try.prog w = .ok (.func fn first cap) w := fun _ _ _ _ => rfl
  clear HC
  go_enter Try.func82, Try.ntmps82
  go_wp2_with fail
  go_loopg [7, 10] n (fun g ov iv wr => ∃ (k c : Nat) (L : List Int) (ow : Value), ow = ov ∧ k + g = n ∧ iv = .int .i64 (k : Int) ∧ Hid (ordN n fit k = some (c, L)) ∧ wr.ownsRow (w.heap.size + 2) 3 1 ow L.length (cellsI L) ∧ Blk wr (w.heap.size + 1) 68 #[.int .u64 (c : Int)] ∧ Blk wr w.heap.size 84 #[.func (.func fid) #[] caps] ∧ Below w.heap.size w wr)
  case atStart => exact ⟨0, 0, [], _, rfl, by omega, rfl, rfl, World.ownsRow_nil _ _ _ _, HG0.out, HF0.out, HB0.out⟩
  case round =>
    clear HB0 HF0 HG0
    obtain ⟨k, c, L, ow, rfl, hkg, rfl, hord, hrow, hgo, hfi, hB⟩ := hrel
    obtain ⟨A6, c6, rfl⟩ := own_form hrow
    obtain ⟨hc, hLk⟩ := ordN_ok hord.out
    have hL8 : L.length ≤ 8 := by omega
    have hz1' := hgo.lt
    cases gk with
    | zero =>
      obtain rfl : k = n := by omega
      have HV : Hid (ordL k fit = L) := by show _ = _; unfold ordL; rw [hord.out]; rfl
      have HS : Hid ((ordN k fit k).isSome = true) := by show _ = _; rw [hord.out]; rfl
      have HR := Lib.hid (own_base hrow (by omega : w.heap.size ≤ w.heap.size + 2))
      have HB := Lib.hid hB
      clear hrow hgo hfi hB hLk
      go_wp2_with fail
      go_ret2
      rw [HV.out, HS.out]
      exact ⟨A6, c6, rfl, HR.out, HB.out⟩
    | succ g2 =>
      have hlt : k < n := by omega
      have hlt' : (k : Int) < (n : Int) := by omega
      have HFN : Fn1 wr 131 #[.pointer (some ⟨w.heap.size + 1, 0, none⟩), .pointer (some ⟨w.heap.size, 0, none⟩)] n (fitB fit c) :=
        { enter := fun _ _ => by kernel_rfl
          call := fun W hW x hx => by
            have h_ := fitting_any n c x (w.heap.size + 1) w.heap.size fit fid caps W hn hc hx ((hgo.below hW hgo.lt).cell 0) ((hfi.below hW hfi.lt).cell 0) HENT.out (fun hb => HCC.out W c x (btrans hB hW) hc hx hb)
            exact h_ }
      have HNW := Lib.hid (nodesWhere_any n _ _ (fitB fit c) wr hn HFN)
      have HR := Lib.hid hrow
      have HG := Lib.hid hgo
      have HF := Lib.hid hfi
      have HB := Lib.hid hB
      clear hrow hgo hfi hB HFN hLk
      cases hx0 : (nw (fitB fit c) n)[0]? with
      | none =>
        have he : nw (fitB fit c) n = [] := by
          cases hl : nw (fitB fit c) n with
          | nil => rfl
          | cons y ys => rw [hl] at hx0; cases hx0
        have hno : ordN n fit (k + 1) = none := by rw [ordN, hord.out]; simp [hx0]
        have hnn : ordN n fit n = none := by have := ordN_none hno (n - (k + 1)); rwa [show k + 1 + (n - (k + 1)) = n from by omega] at this
        have HV : Hid (ordL n fit = []) := by show _ = _; unfold ordL; rw [hnn]; rfl
        have HS : Hid ((ordN n fit n).isSome = false) := by show _ = _; rw [hnn]; rfl
        rw [he] at HNW
        clear he hx0 hno hnn
        go_wp2_with fail
        refine HNW.out.mono ?_
        rintro e w3 ⟨A5, c5, rfl, o5, b5⟩
        have HB3 := Lib.hid (btrans HB.out b5)
        clear o5 b5
        go_wp2_with fail
        go_ret2
        rw [HV.out, HS.out]
        exact ⟨none, 0, rfl, World.ownsRow_nil _ _ _ _, HB3.out⟩
      | some x0 =>
        obtain ⟨z, rfl, hzn, -⟩ := nw_at hx0
        have HO1 : Hid (ordN n fit (k + 1) = some (c ||| 2 ^ z, L ++ [(z : Int)])) := by show _ = _; rw [ordN, hord.out]; simp [hx0]
        have HX0 := Lib.hid hx0
        have hFl : 0 < (nw (fitB fit c) n).length := (List.getElem?_eq_some_iff.1 hx0).1
        have hFl' : (0 : Int) < ((nw (fitB fit c) n).length : Int) := by omega
        have hFn : ¬ ((nw (fitB fit c) n).length = 0) := by omega
        have hor := or_walk c z (by have := pow8 hn; omega) (by omega)
        clear hx0
        generalize nw (fitB fit c) n = F at *
        generalize c ||| 2 ^ z = q at *
        go_wp2_with fail
        refine HNW.out.mono ?_
        rintro e w3 ⟨A5, c5, rfl, o5, b5⟩
        have hrow3 := own_below HR.out b5
        have HG3 := Lib.hid (HG.out.below b5 HG.out.lt)
        have HF3 := Lib.hid (HF.out.below b5 HF.out.lt)
        have HB3 := Lib.hid (btrans HB.out b5)
        have HO5 := Lib.hid o5
        have HAP : Hid (Apart' (.slice A6 L.length c6) (.slice A5 F.length c5)) := fun u h1 h2 => by
          have := (HR.out.lt u h1).2
          have := (o5.lt u h2).1
          omega
        obtain ⟨_, _, hf9, hcc9⟩ := (show Ints w3 (.slice A5 F.length c5) F from Reads.of_own o5).form
        cases hf9
        obtain ⟨g9, o9, rfl, q9⟩ := hcc9 0 _ HX0.out
        rw [Nat.add_zero] at q9
        have hz3 := b5.size
        clear hcc9 b5 o5 HR HG HF
        go_wp2_with ((at_builtin; refine wpList_append_own _ rfl _ _ 25 rfl (w.heap.size + 2) 3 i0 (.int .i64 0) 1 8 Try.underlying25 hi hz0 hz1 hz2 rfl (by decide) _ _ _ rfl (hrow3.alloc _) ⟨w3.heap.size, 0, none⟩ 1 1 [.int .i64 ((z : Int))] rfl rfl (cell_one_new _ _ _) (fun x hx => by simp at hx; subst hx; rfl) (by unfold maxLen; omega) (by omega) (by simp; omega) ?_; intro v2 w2 hown2 hgrow2 _); have hG4 := (HG3.out.alloc (.cells #[.int .i64 (z : Int)] 3)).grown hgrow2 (fun e => mids.own_ne hrow3 HG3.out (by decide) e.symm); have p4 : w2.cell? ⟨w.heap.size + 1, 0, none⟩ = some (.int .u64 (c : Int)) := hG4.cell 0; have y4 := hG4.frozen 0; have o6 := (HO5.out.alloc (.cells #[.int .i64 (z : Int)] 3)).kept hgrow2 (bags.apart_or HAP.out); have p6 := row0 o6 HX0.out)
        obtain ⟨hown3, hB2⟩ := push1 hrow3 hown2 hgrow2 (by omega)
        have HO3 := Lib.hid hown3
        have HF4 := Lib.hid ((HF3.out.alloc (.cells #[.int .i64 (z : Int)] 3)).grown hgrow2 (fun e => mids.own_ne hrow3 HF3.out (by decide) e.symm))
        have HG4 := Lib.hid hG4
        have HB4 := Lib.hid (HB3.out.trans (hB2.mono (by omega)))
        clear hgrow2 hown2 hB2 hrow3 hown3 hG4 o6
        have HO7 : Hid ((w2.setCell ⟨w.heap.size + 1, 0, none⟩ (.int .u64 (q : Int))).ownsRow (w.heap.size + 2) 3 1 v2 (L ++ [(z : Int)]).length (cellsI (L ++ [(z : Int)]))) :=
          HO3.out.kept (gset (World.grownBy.refl w2 (some (w.heap.size + 1))) 0 (.int .u64 (q : Int))) (.inr (mids.own_ne HO3.out HG4.out (by decide)))
        have HG7 : Hid (Blk (w2.setCell ⟨w.heap.size + 1, 0, none⟩ (.int .u64 (q : Int))) (w.heap.size + 1) 68 #[.int .u64 (q : Int)]) := by
          have h_ := HG4.out.set_ 0 (.int .u64 (q : Int))
          show Blk _ _ _ _
          simpa using h_
        have HF7 := Lib.hid (HF4.out.far (p := ⟨w.heap.size + 1, 0, none⟩) (by show w.heap.size ≠ w.heap.size + 1; omega) (.int .u64 (q : Int)))
        have HB7 := Lib.hid (HB4.out.setCell (p := ⟨w.heap.size + 1, 0, none⟩) (by show w.heap.size ≤ w.heap.size + 1; omega) (.int .u64 (q : Int)))
        have HNE : Hid (g9 ≠ w.heap.size + 1) := by
          show _ ≠ _
          have := (HO5.out.lt g9 rfl).1
          omega
        have HKF : Hid (∀ (W : World) (y : Value), W.cell? ⟨g9, o9, none⟩ = some (.int .i64 (z : Int)) → (W.setCell ⟨w.heap.size + 1, 0, none⟩ y).cell? ⟨g9, o9, none⟩ = some (.int .i64 (z : Int))) := fun W y hW => by
          rw [World.cell?_setCell_other (h := fun e => HNE.out (congrArg Addr.block e).symm)]; exact hW
        refine wp_region_held_drew (S := (fun w' : World => w'.cell? ⟨g9, o9, none⟩ = some (.int .i64 (z : Int)))) (by kernel_rfl) (by (try dsimp only); simp [*]) (fun hHeld => ?_)
        change wpAnyH _ _ _ _ _ _ #[false, false, false, false, false, false, false] _ _
        refine wpAnyH_take (i := 1) (oi := ⟨some 25, _, _, _, _, _⟩) (v := ?_) rfl (by kernel_rfl) (by kernel_rfl) (by kernel_rfl) (fun _ _ _ h => h) (Or.inl ⟨by rfl, ?_⟩) (by assumption) ?_
        rotate_left
        · (intro w hSw; (try dsimp only at hSw); go_simp; (try (with_reducible rfl)))
        try simp only [Act.put, List.setIfInBounds_toArray, List.set_cons_zero, List.set_cons_succ]
        refine wpAnyH_take (i := 2) (oi := ⟨some 26, _, _, _, _, _⟩) (v := ?_) rfl (by kernel_rfl) (by kernel_rfl) (by kernel_rfl) (fun _ _ _ h => h) (Or.inl ⟨by rfl, ?_⟩) (by assumption) ?_
        rotate_left
        · (intro w hSw; (try dsimp only at hSw); go_simp; (try (with_reducible rfl)))
        try simp only [Act.put, List.setIfInBounds_toArray, List.set_cons_zero, List.set_cons_succ]
        refine wpAnyH_take (i := 3) (oi := ⟨some 27, _, _, _, _, _⟩) (v := ?_) rfl (by kernel_rfl) (by kernel_rfl) (by kernel_rfl) (fun _ _ _ h => h) (Or.inl ⟨by rfl, ?_⟩) (by assumption) ?_
        rotate_left
        · (intro w hSw; (try dsimp only at hSw); go_simp; (try (with_reducible rfl)))
        try simp only [Act.put, List.setIfInBounds_toArray, List.set_cons_zero, List.set_cons_succ]
        refine wpAnyH_take (i := 4) (oi := ⟨some 28, _, _, _, _, _⟩) (v := ?_) rfl (by kernel_rfl) (by kernel_rfl) (by kernel_rfl) (fun _ _ _ h => h) (Or.inl ⟨by rfl, ?_⟩) (by assumption) ?_
        rotate_left
        · (intro w hSw; (try dsimp only at hSw); go_simp; (try (with_reducible rfl)))
        try simp only [Act.put, List.setIfInBounds_toArray, List.set_cons_zero, List.set_cons_succ]
        refine wpAnyH_ready (rs := [0]) (by kernel_rfl) (by simp) ?_
        refine AllReadyH.cons rfl (fun K hK => ?_) AllReadyH.nil
        go_simp
        refine hK.out _ _ (hHeld) (fun hHeld => ?_)
        clear hK K
        try simp only [List.setIfInBounds_toArray, List.set_cons_zero, List.set_cons_succ]
        refine wpAnyH_take (i := 5) (oi := ⟨some 29, _, _, _, _, _⟩) (v := ?_) rfl (by kernel_rfl) (by kernel_rfl) (by kernel_rfl) (fun _ _ _ h => h) (Or.inl ⟨by rfl, ?_⟩) (by assumption) ?_
        rotate_left
        · (intro w hSw; (try dsimp only at hSw); go_simp; (try (with_reducible rfl)))
        try simp only [Act.put, List.setIfInBounds_toArray, List.set_cons_zero, List.set_cons_succ]
        refine wpAnyH_ready (rs := [6]) (by kernel_rfl) (by simp) ?_
        refine AllReadyH.cons rfl (fun K hK => ?_) AllReadyH.nil
        go_simp
        refine hK.out _ _ (HKF.out _ _ p6) (fun hHeld => ?_)
        clear hK K
        refine wpAnyH_done (by kernel_rfl) ?_ _
        go_wp2_with fail
        go_roundg g2
        case measure => omega
        case rel => exact ⟨k + 1, q, _, v2, rfl, by omega, by go_num, HO1, HO7.out, HG7.out, HF7.out, HB7.out.drew⟩
end Go.Proofs.Ytphlpipbhaiijaa.costs

/- The contract of the program's cheapestOrder. -/
namespace Go.Proofs.Ytphlpipbhaiijaa.costs
open Go.RowKit P2 words edges ints good adjs fns sets rets covs reach bags bitsI fronts
set_option linter.unusedVariables false

def fitC (cost : Nat → Nat → Int) (C : Nat → Int) (g x : Nat) : Bool := decide (max (cost g x) (C (g ||| 2 ^ x)) ≤ C 0)
set_option maxHeartbeats 2000000 in
set_option maxRecDepth 100000 in
theorem cheapestOrder_any (n b : Nat) (nil : Int) (cost : Nat → Nat → Int) (fid : FuncId) (w : World) (hn : n ≤ 8) (hnil : nil ≤ 100) (hcost : ∀ g x, cost g x ≤ 100)
    (hent : ∀ (args : Array Value) (W : World), (callFunc fid args).run Try.prog W = .ok (.enter fid args) W)
    (HC : ∀ (W : World) (g x : Nat), Below w.heap.size w W → g < 2 ^ n → x < n → g.testBit x = false → Calls Try.prog fid #[.int .u64 (g : Int), .int .i64 (x : Int), .pointer (some ⟨b, 0, none⟩)] W fun e w' => e = .returned (.int .i64 (cost g x)) ∧ ∃ m, w' = W.drewN m) :
    Calls Try.prog 77 #[.int .i64 (n : Int), .int .i64 nil, .func (.func fid) #[] #[.pointer (some ⟨b, 0, none⟩)]] w fun e w' => ∃ C, LcUp n cost nil 0 C ∧ ∃ A c, e = .returned (.tuple #[.slice A (ordL n (fitC cost C)).length c, .bool (ordN n (fitC cost C) n).isSome]) ∧ w'.ownsRow w.heap.size 3 1 (.slice A (ordL n (fitC cost C)).length c) (ordL n (fitC cost C)).length (cellsI (ordL n (fitC cost C))) ∧ Below w.heap.size w w' := by
  have b0 : Below w.heap.size w (w.alloc (.cells #[.func (.func fid) #[] #[.pointer (some ⟨b, 0, none⟩)]] 78)) := (Below.refl _ _).alloc (Nat.le_refl _) _
  have g0 := Blk.new w 78 #[.func (.func fid) #[] #[.pointer (some ⟨b, 0, none⟩)]]
  have HLC := Lib.hid (leastCosts_any n b nil cost fid (w.alloc (.cells #[.func (.func fid) #[] #[.pointer (some ⟨b, 0, none⟩)]] 78)) hn hnil hcost hent (fun W g x hW hg hx hb => HC W g x (btrans b0 hW) hg hx hb))
  have HCC := Lib.hid HC
  have HENT := Lib.hid hent
  have HB0 := Lib.hid b0
  have HG0 := Lib.hid g0
  have hmf : ∀ (fn : Fn) (first cap : Array Value) (w : World), (Instr.makeFunc fn first cap).run Try.prog w = .ok (.func fn first cap) w := fun _ _ _ _ => rfl
  have p0 := g0.cell 0
  clear HC b0 g0
  go_enter Try.func77, Try.ntmps77
  go_wp2_with fail
  refine HLC.out.mono ?_
  rintro e w2 ⟨A9, c9, C, rfl, o9, hlc, b9⟩
  have HE2 := Lib.hid (btrans HB0.out b9)
  have HG2 := Lib.hid (HG0.out.below b9 HG0.out.lt)
  have b3 : Below w2.heap.size w2 (w2.alloc (.cells #[.slice A9 (2 ^ n) c9] 25)) := (Below.refl _ _).alloc (Nat.le_refl _) _
  have HE3 := Lib.hid (btrans HE2.out b3)
  have HG3 := Lib.hid (HG2.out.below b3 HG2.out.lt)
  have HR3 := Lib.hid (Blk.new w2 25 #[.slice A9 (2 ^ n) c9])
  have HRD := Lib.hid (Reads.of_own (own_below o9 b3))
  have HL := Lib.hid hlc
  have HFO := Lib.hid (firstOrder_any n (fitC cost C) 128 #[.pointer (some ⟨w.heap.size, 0, none⟩), .pointer (some ⟨w2.heap.size, 0, none⟩)] (w2.alloc (.cells #[.slice A9 (2 ^ n) c9] 25)) hn (fun _ _ => by kernel_rfl) (fun W g x hW hg hx hb =>
    (fits_any n g x b w.heap.size w2.heap.size cost C fid A9 c9 W hn hg hx ((HG3.out.below hW HG3.out.lt).cell 0) ((HR3.out.below hW HR3.out.lt).cell 0) (HRD.out.below hW) HENT.out
      (fun m => HCC.out (W.drewN m) g x (below_drewN (btrans HE3.out hW) m) hg hx hb)).mono fun _ _ ⟨e, m, h⟩ => ⟨e, h ▸ below_drewN (Below.refl _ _) m⟩))
  clear p0 o9 b9 b3 hlc
  go_wp2_with fail
  refine HFO.out.mono ?_
  rintro e w4 ⟨A4, c4, rfl, o4, b4⟩
  have HO4 := Lib.hid (own_base o4 HE3.out.size)
  have HE4 := Lib.hid (btrans HE3.out b4)
  clear o4 b4
  go_wp2_with fail
  go_ret2
  exact ⟨C, HL.out, A4, c4, rfl, HO4.out, HE4.out⟩
end Go.Proofs.Ytphlpipbhaiijaa.costs

/- Plain mathematics of distances: what makes a list the distances from a node, why there is one such list alone, and the two ways to find it. It imports nothing of the program. -/
namespace Go.Proofs.Ytphlpipbhaiijaa.P2
open Go

/-- D tells the distances from x among n nodes by the test J, -1 where there is no way -/
structure IsDist (n : Nat) (J : Nat → Nat → Bool) (x : Nat) (D : Nat → Int) : Prop where
  at0 : D x = 0
  only : ∀ y, y < n → D y = 0 → y = x
  low : ∀ y, y < n → -1 ≤ D y
  step : ∀ y z, y < n → z < n → 0 ≤ D y → J y z = true → 0 ≤ D z ∧ D z ≤ D y + 1
  back : ∀ z, z < n → 0 < D z → ∃ y, y < n ∧ D y = D z - 1 ∧ J y z = true

theorem IsDist.le {n : Nat} {J : Nat → Nat → Bool} {x : Nat} {D E : Nat → Int} (h : IsDist n J x D) (k : IsDist n J x E) : ∀ (m : Nat) z, z < n → E z = m → 0 ≤ D z ∧ D z ≤ m
  | 0, z, hz, e => by
    obtain rfl := k.only z hz e
    rw [h.at0]; omega
  | m + 1, z, hz, e => by
    obtain ⟨y, hy, ey, hj⟩ := k.back z hz (by omega)
    have := IsDist.le h k m y hy (by omega)
    have := h.step y z hy hz this.1 hj
    omega
theorem IsDist.eq {n : Nat} {J : Nat → Nat → Bool} {x : Nat} {D E : Nat → Int} (h : IsDist n J x D) (k : IsDist n J x E) (z : Nat) (hz : z < n) : D z = E z := by
  have a := h.low z hz
  have b := k.low z hz
  by_cases h1 : 0 ≤ D z
  · have := k.le h (D z).toNat z hz (by omega)
    have := h.le k (E z).toNat z hz (by omega)
    omega
  · by_cases h2 : 0 ≤ E z
    · have := h.le k (E z).toNat z hz (by omega)
      omega
    · omega

theorem dist_chain {n : Nat} {J : Nat → Nat → Bool} {D : Nat → Int} (back : ∀ z, z < n → 0 < D z → ∃ y, y < n ∧ D y = D z - 1 ∧ J y z = true) :
    ∀ (k : Nat) z, z < n → D z = k → ∃ f : Nat → Nat, ∀ j, j ≤ k → f j < n ∧ D (f j) = j
  | 0, z, hz, e => ⟨fun _ => z, fun j hj => ⟨hz, by rw [e]; omega⟩⟩
  | k + 1, z, hz, e => by
    obtain ⟨y, hy, ey, _⟩ := back z hz (by omega)
    obtain ⟨f, hf⟩ := dist_chain back k y hy (by omega)
    refine ⟨fun j => if j = k + 1 then z else f j, fun j hj => ?_⟩
    by_cases hk : j = k + 1
    · simp only [hk, if_true]; exact ⟨hz, by rw [e]⟩
    · simp only [hk, if_false]; exact hf j (by omega)
theorem dist_small {n : Nat} {J : Nat → Nat → Bool} {D : Nat → Int} (back : ∀ z, z < n → 0 < D z → ∃ y, y < n ∧ D y = D z - 1 ∧ J y z = true) {z : Nat} (hz : z < n) : D z < n := by
  rcases (show D z < 0 ∨ 0 ≤ D z from by omega) with h0 | h0
  · omega
  · obtain ⟨f, hf⟩ := dist_chain back (D z).toNat z hz (by omega)
    have hnd : ((List.range ((D z).toNat + 1)).map f).Nodup := by
      rw [List.Nodup, List.pairwise_map]
      refine (List.pairwise_lt_range (n := (D z).toNat + 1)).imp_of_mem ?_
      intro a b ha hb hlt he
      have h1 := (hf a (by have := List.mem_range.1 ha; omega)).2
      have h2 := (hf b (by have := List.mem_range.1 hb; omega)).2
      rw [he] at h1
      omega
    have hsub : (List.range ((D z).toNat + 1)).map f ⊆ List.range n := by
      intro a ha
      obtain ⟨j, hj, rfl⟩ := List.mem_map.1 ha
      exact List.mem_range.2 (hf j (by have := List.mem_range.1 hj; omega)).1
    have := hnd.length_le_of_subset hsub
    simp only [List.length_map, List.length_range] at this
    omega

/-- a list of numbers as a function -/
def fn (D : List Int) (y : Nat) : Int := D.getD y 0
theorem fn_at {D : List Int} {y : Nat} {u : Int} (h : D[y]? = some u) : fn D y = u := by simp [fn, h]
theorem fn_get {D : List Int} {y : Nat} (h : y < D.length) : D[y]? = some (fn D y) := by simp [fn, h]
theorem fn_set {D : List Int} {z : Nat} (hz : z < D.length) (u : Int) (y : Nat) : fn (D.set z u) y = if y = z then u else fn D y := by
  unfold fn
  by_cases h : y = z
  · subst h; simp [hz]
  · rw [if_neg h, List.getD_eq_getElem?_getD, List.getElem?_set_ne (by omega), ← List.getD_eq_getElem?_getD]
theorem list_ext_fn {D E : List Int} {n : Nat} (hD : D.length = n) (hE : E.length = n) (h : ∀ y, y < n → fn D y = fn E y) : D = E := by
  apply List.ext_getElem?
  intro y
  by_cases hy : y < n
  · rw [fn_get (by omega), fn_get (by omega), h y hy]
  · rw [List.getElem?_eq_none (by omega), List.getElem?_eq_none (by omega)]

/-- the distances from x, a list -/
noncomputable def dist (n : Nat) (J : Nat → Nat → Bool) (x : Nat) : List Int := Classical.epsilon fun D => D.length = n ∧ IsDist n J x (fn D)
theorem dist_eq {n : Nat} {J : Nat → Nat → Bool} {x : Nat} {D : List Int} (hD : D.length = n) (h : IsDist n J x (fn D)) : dist n J x = D := by
  have := Classical.epsilon_spec (p := fun D : List Int => D.length = n ∧ IsDist n J x (fn D)) ⟨D, hD, h⟩
  exact list_ext_fn this.1 hD (fun y hy => this.2.eq h y hy)

/-- layer by layer: the layers below d are done -/
structure IsPart (n : Nat) (J : Nat → Nat → Bool) (x : Nat) (d : Nat) (D : Nat → Int) : Prop where
  at0 : D x = 0
  only : ∀ y, y < n → D y = 0 → y = x
  low : ∀ y, y < n → -1 ≤ D y ∧ D y ≤ d
  step : ∀ y z, y < n → z < n → 0 ≤ D y → D y < d → J y z = true → 0 ≤ D z ∧ D z ≤ D y + 1
  back : ∀ z, z < n → 0 < D z → ∃ y, y < n ∧ D y = D z - 1 ∧ J y z = true
theorem IsPart.zero {n : Nat} (J : Nat → Nat → Bool) {x : Nat} (D : Nat → Int) (h0 : D x = 0) (h1 : ∀ y, y < n → y ≠ x → D y = -1) : IsPart n J x 0 D where
  at0 := h0
  only := fun y hy e => by
    apply Classical.byContradiction
    intro hne
    have := h1 y hy hne
    omega
  low := fun y hy => by
    by_cases e : y = x
    · subst e; omega
    · have := h1 y hy e; omega
  step := fun y z _ _ h h' _ => by omega
  back := fun z hz h => by
    by_cases e : z = x
    · subst e; omega
    · have := h1 z hz e; omega
theorem IsPart.done {n : Nat} {J : Nat → Nat → Bool} {x : Nat} {D : Nat → Int} (h : IsPart n J x n D) : IsDist n J x D where
  at0 := h.at0
  only := h.only
  low := fun y hy => (h.low y hy).1
  step := fun y z hy hz h0 hj => h.step y z hy hz h0 (dist_small h.back hy) hj
  back := h.back
/-- in the midst of layer d: the pairs of nodes less than (a, b) are done -/
structure IsMid (n : Nat) (J : Nat → Nat → Bool) (x d a b : Nat) (D : Nat → Int) : Prop where
  at0 : D x = 0
  only : ∀ y, y < n → D y = 0 → y = x
  low : ∀ y, y < n → -1 ≤ D y ∧ D y ≤ d + 1
  step : ∀ y z, y < n → z < n → 0 ≤ D y → D y < d → J y z = true → 0 ≤ D z ∧ D z ≤ D y + 1
  pair : ∀ y z, y < n → z < n → (y < a ∨ (y = a ∧ z < b)) → D y = d → J y z = true → 0 ≤ D z
  back : ∀ z, z < n → 0 < D z → ∃ y, y < n ∧ D y = D z - 1 ∧ J y z = true
theorem IsPart.mid {n : Nat} {J : Nat → Nat → Bool} {x d : Nat} {D : Nat → Int} (h : IsPart n J x d D) : IsMid n J x d 0 0 D where
  at0 := h.at0
  only := h.only
  low := fun y hy => ⟨(h.low y hy).1, by have := (h.low y hy).2; omega⟩
  step := h.step
  pair := fun y z _ _ hl => by omega
  back := h.back
theorem IsMid.next {n : Nat} {J : Nat → Nat → Bool} {x d a : Nat} {D : Nat → Int} (h : IsMid n J x d a n D) : IsMid n J x d (a + 1) 0 D where
  at0 := h.at0
  only := h.only
  low := h.low
  step := h.step
  pair := fun y z hy hz hl => h.pair y z hy hz (by omega)
  back := h.back
theorem IsMid.done {n : Nat} {J : Nat → Nat → Bool} {x d : Nat} {D : Nat → Int} (h : IsMid n J x d n 0 D) : IsPart n J x (d + 1) D where
  at0 := h.at0
  only := h.only
  low := fun y hy => ⟨(h.low y hy).1, by have := (h.low y hy).2; omega⟩
  step := fun y z hy hz h0 hd hj => by
    by_cases e : D y = d
    · have h1 := h.pair y z hy hz (.inl (by omega)) e hj
      have h2 := h.low z hz
      omega
    · exact h.step y z hy hz h0 (by omega) hj
  back := h.back
theorem IsMid.skip {n : Nat} {J : Nat → Nat → Bool} {x d a b : Nat} {D : Nat → Int} (h : IsMid n J x d a b D) (hn : ¬ (D a = d ∧ D b < 0 ∧ J a b = true)) : IsMid n J x d a (b + 1) D where
  at0 := h.at0
  only := h.only
  low := h.low
  step := h.step
  pair := fun y z hy hz hl hd hj => by
    by_cases e : y = a ∧ z = b
    · obtain ⟨rfl, rfl⟩ := e
      apply Classical.byContradiction
      intro h0
      exact hn ⟨hd, by omega, hj⟩
    · exact h.pair y z hy hz (by omega) hd hj
  back := h.back
theorem IsMid.put {n : Nat} {J : Nat → Nat → Bool} {x d a b : Nat} {D : Nat → Int} (h : IsMid n J x d a b D) (ha : a < n) (hd : D a = d) (hb : D b < 0) (hj : J a b = true) :
    IsMid n J x d a (b + 1) (fun y => if y = b then (d : Int) + 1 else D y) where
  at0 := by
    have := h.at0
    rw [if_neg (by intro e; subst e; omega)]; exact this
  only := fun y hy e => by
    by_cases eb : y = b
    · rw [if_pos eb] at e; omega
    · rw [if_neg eb] at e; exact h.only y hy e
  low := fun y hy => by
    by_cases eb : y = b
    · rw [if_pos eb]; omega
    · rw [if_neg eb]; exact h.low y hy
  step := fun y z hy hz h0 hlt hyz => by
    by_cases ey : y = b
    · rw [if_pos ey] at hlt; omega
    · rw [if_neg ey] at h0 hlt ⊢
      have := h.step y z hy hz h0 hlt hyz
      by_cases ez : z = b
      · subst ez; omega
      · rw [if_neg ez]; exact this
  pair := fun y z hy hz hl hyd hyz => by
    by_cases ez : z = b
    · rw [if_pos ez]; omega
    · rw [if_neg ez]
      by_cases ey : y = b
      · rw [if_pos ey] at hyd; omega
      · rw [if_neg ey] at hyd
        exact h.pair y z hy hz (by omega) hyd hyz
  back := fun z hz h0 => by
    by_cases ez : z = b
    · subst ez
      rw [if_pos rfl]
      exact ⟨a, ha, by rw [if_neg (by intro e; subst e; omega)]; omega, hj⟩
    · rw [if_neg ez] at h0 ⊢
      obtain ⟨y, hy, ey, hyz⟩ := h.back z hz h0
      exact ⟨y, hy, by rw [if_neg (by intro e; subst e; omega)]; exact ey, hyz⟩

/-- a queue: the nodes of Q are found, and what they lead to is still to be looked at -/
structure IsBfs (n : Nat) (J : Nat → Nat → Bool) (x : Nat) (D : Nat → Int) (Q : List Nat) : Prop where
  at0 : D x = 0
  only : ∀ y, y < n → D y = 0 → y = x
  low : ∀ y, y < n → -1 ≤ D y
  back : ∀ z, z < n → 0 < D z → ∃ y, y < n ∧ D y = D z - 1 ∧ J y z = true
  inq : ∀ q, q ∈ Q → q < n ∧ 0 ≤ D q
  sorted : Q.Pairwise fun a b => D a ≤ D b
  top : ∀ q, q ∈ Q → ∀ y, y < n → D y ≤ D q + 1
  step : ∀ y z, y < n → z < n → 0 ≤ D y → y ∉ Q → J y z = true → 0 ≤ D z ∧ D z ≤ D y + 1
theorem IsBfs.start {n : Nat} (J : Nat → Nat → Bool) {x : Nat} (hx : x < n) (D : Nat → Int) (h0 : D x = 0) (h1 : ∀ y, y < n → y ≠ x → D y = -1) : IsBfs n J x D [x] where
  at0 := h0
  only := fun y hy e => by
    apply Classical.byContradiction
    intro hne
    have := h1 y hy hne
    omega
  low := fun y hy => by
    by_cases e : y = x
    · subst e; omega
    · have := h1 y hy e; omega
  back := fun z hz h => by
    by_cases e : z = x
    · subst e; omega
    · have := h1 z hz e; omega
  inq := fun q hq => by simp at hq; subst hq; exact ⟨hx, by omega⟩
  sorted := by simp
  top := fun q hq y hy => by
    simp at hq; subst hq
    by_cases e : y = q
    · subst e; omega
    · have := h1 y hy e; omega
  step := fun y z hy hz h hq _ => by
    by_cases e : y = x
    · subst e; simp at hq
    · have := h1 y hy e; omega
theorem IsBfs.done {n : Nat} {J : Nat → Nat → Bool} {x : Nat} {D : Nat → Int} (h : IsBfs n J x D []) : IsDist n J x D where
  at0 := h.at0
  only := h.only
  low := h.low
  back := h.back
  step := fun y z hy hz h0 hj => h.step y z hy hz h0 (by simp) hj
/-- node a is being looked at, the nodes less than b are done -/
structure IsLook (n : Nat) (J : Nat → Nat → Bool) (x a b : Nat) (D : Nat → Int) (Q : List Nat) : Prop where
  at0 : D x = 0
  only : ∀ y, y < n → D y = 0 → y = x
  low : ∀ y, y < n → -1 ≤ D y
  back : ∀ z, z < n → 0 < D z → ∃ y, y < n ∧ D y = D z - 1 ∧ J y z = true
  inq : ∀ q, q ∈ Q → q < n ∧ D a ≤ D q
  sorted : Q.Pairwise fun a b => D a ≤ D b
  top : ∀ y, y < n → D y ≤ D a + 1
  here : a < n ∧ 0 ≤ D a
  step : ∀ y z, y < n → z < n → 0 ≤ D y → y ∉ Q → y ≠ a → J y z = true → 0 ≤ D z ∧ D z ≤ D y + 1
  seen : ∀ z, z < n → z < b → J a z = true → 0 ≤ D z
theorem IsBfs.look {n : Nat} {J : Nat → Nat → Bool} {x a : Nat} {D : Nat → Int} {Q : List Nat} (h : IsBfs n J x D (a :: Q)) : IsLook n J x a 0 D Q where
  at0 := h.at0
  only := h.only
  low := h.low
  back := h.back
  inq := fun q hq => ⟨(h.inq q (by simp [hq])).1, (List.pairwise_cons.1 h.sorted).1 q hq⟩
  sorted := (List.pairwise_cons.1 h.sorted).2
  top := h.top a (by simp)
  here := h.inq a (by simp)
  step := fun y z hy hz h0 hq ha hj => h.step y z hy hz h0 (by simp [ha, hq]) hj
  seen := fun z _ hb => by omega
theorem IsLook.done {n : Nat} {J : Nat → Nat → Bool} {x a : Nat} {D : Nat → Int} {Q : List Nat} (h : IsLook n J x a n D Q) : IsBfs n J x D Q where
  at0 := h.at0
  only := h.only
  low := h.low
  back := h.back
  inq := fun q hq => ⟨(h.inq q hq).1, by have := (h.inq q hq).2; have := h.here.2; omega⟩
  sorted := h.sorted
  top := fun q hq y hy => by have := (h.inq q hq).2; have := h.top y hy; omega
  step := fun y z hy hz h0 hq hj => by
    by_cases e : y = a
    · subst e; exact ⟨h.seen z hz hz hj, h.top z hz⟩
    · exact h.step y z hy hz h0 hq e hj
theorem IsLook.skip {n : Nat} {J : Nat → Nat → Bool} {x a b : Nat} {D : Nat → Int} {Q : List Nat} (h : IsLook n J x a b D Q) (hn : ¬ (J a b = true ∧ D b < 0)) : IsLook n J x a (b + 1) D Q where
  at0 := h.at0
  only := h.only
  low := h.low
  back := h.back
  inq := h.inq
  sorted := h.sorted
  top := h.top
  here := h.here
  step := h.step
  seen := fun z hz hb hj => by
    by_cases e : z = b
    · subst e
      apply Classical.byContradiction
      intro h0
      exact hn ⟨hj, by omega⟩
    · exact h.seen z hz (by omega) hj
theorem IsLook.put {n : Nat} {J : Nat → Nat → Bool} {x a b : Nat} {D : Nat → Int} {Q : List Nat} (h : IsLook n J x a b D Q) (hb : b < n) (hj : J a b = true) (h0 : D b < 0) :
    IsLook n J x a (b + 1) (fun y => if y = b then D a + 1 else D y) (Q ++ [b]) := by
  have hab : a ≠ b := by intro e; subst e; have := h.here.2; omega
  have hxb : x ≠ b := by intro e; subst e; have := h.at0; omega
  have hQ : ∀ q, q ∈ Q → q ≠ b := fun q hq e => by subst e; have := (h.inq q hq).2; have := h.here.2; omega
  constructor
  · rw [if_neg hxb]; exact h.at0
  · intro y hy e
    by_cases eb : y = b
    · rw [if_pos eb] at e; have := h.here.2; omega
    · rw [if_neg eb] at e; exact h.only y hy e
  · intro y hy
    by_cases eb : y = b
    · rw [if_pos eb]; have := h.here.2; omega
    · rw [if_neg eb]; exact h.low y hy
  · intro z hz hp
    by_cases ez : z = b
    · subst ez
      refine ⟨a, h.here.1, ?_, hj⟩
      rw [if_neg hab, if_pos rfl]; omega
    · rw [if_neg ez] at hp ⊢
      obtain ⟨y, hy, ey, hyz⟩ := h.back z hz hp
      exact ⟨y, hy, by rw [if_neg (by intro e; subst e; omega)]; exact ey, hyz⟩
  · intro q hq
    rw [if_neg hab]
    rcases List.mem_append.1 hq with hq | hq
    · rw [if_neg (hQ q hq)]; exact h.inq q hq
    · simp at hq; subst hq; rw [if_pos rfl]; exact ⟨hb, by omega⟩
  · rw [List.pairwise_append]
    refine ⟨?_, by simp, ?_⟩
    · refine h.sorted.imp_of_mem ?_
      intro p q hp hq hpq
      rw [if_neg (hQ p hp), if_neg (hQ q hq)]; exact hpq
    · intro p hp q hq
      simp at hq; subst hq
      rw [if_neg (hQ p hp), if_pos rfl]
      exact h.top p (h.inq p hp).1
  · intro y hy
    rw [if_neg hab]
    by_cases eb : y = b
    · rw [if_pos eb]; omega
    · rw [if_neg eb]; exact h.top y hy
  · rw [if_neg hab]; exact h.here
  · intro y z hy hz hp hq hya hyz
    have hyb : y ≠ b := fun e => hq (by simp [e])
    rw [if_neg hyb] at hp ⊢
    have := h.step y z hy hz hp (fun hh => hq (by simp [hh])) hya hyz
    by_cases ez : z = b
    · subst ez; omega
    · rw [if_neg ez]; exact this
  · intro z hz hzb hyz
    by_cases ez : z = b
    · rw [if_pos ez]; have := h.here.2; omega
    · rw [if_neg ez]; exact h.seen z hz (by omega) hyz
end Go.Proofs.Ytphlpipbhaiijaa.P2
