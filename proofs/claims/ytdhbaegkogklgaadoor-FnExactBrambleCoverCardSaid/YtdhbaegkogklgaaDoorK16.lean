/- The contracts of math/bits.TrailingZeros and of the program's least, where the library's table is laid. -/
import Derived.Test.YtdhbaegkogklgaaDoorK14
import Derived.Shelf.Spec.TrailingZeros
import Derived.Handy
import Derived.Test.YtdhbaegkogklgaaDoorK15
import Derived.Test.YtdhbaegkogklgaaDoorK08
import Derived.Test.YtdhbaegkogklgaaDoorK04
import Derived.Deep.DeepCutAuto
import Derived.Deep.RegionHeld3
import Derived.Deep.QuietTactic
import Derived.Test.YtdhbaegkogklgaaDoorK11
import Derived.Test.YtdhbaegkogklgaaDoorK10
import Derived.Lib.SliceRun
namespace Go.Proofs.YtdhbaegkogklgaaDoor.least
open Go.RowKit P2 words edges ints fns sets rets covs strip
set_option linter.unusedVariables false

/-- the table of math/bits in its variable -/
def Env (w : World) : Prop := TabAt 1 Lib.deBruijn64tab w
theorem Env.next {w w' : World} (h : Env w) (hb : Below w.heap.size w w') : Env w' := fun j hj =>
  (hb.cell (p := ⟨1, j, none⟩) (World.block_lt_of_cell? w (a := ⟨1, j, none⟩) (h j hj))).trans (h j hj)
set_option maxHeartbeats 1000000 in
theorem tz64_core (x k idx : Nat) (w : World) (hx0 : ((x : Int) == 0) = false)
    (key : IntKind.u64.wrap (bits BinOp.and IntKind.u64 (x : Int) (IntKind.u64.wrap (-(x : Int))) * 285870213051353865) / 288230376151711744 = (idx : Int))
    (hi : idx < 64) (hk : k < 64) (hcell : w.cell? ⟨1, idx, none⟩ = some (.int .u8 k)) :
    Calls Tryd.prog 145 #[.int .u64 x] w fun e w' => e = .returned (.int .i64 k) ∧ w = w' := by
  go_enter Tryd.func145, Tryd.ntmps145
  go_wp2_with (simp only [key])
  go_ret
  exact ⟨rfl, rfl⟩
theorem tz64_any (x : Nat) (hx : x < 18446744073709551616) (hx0 : x ≠ 0) (w : World) (hT : Env w) :
    Calls Tryd.prog 145 #[.int .u64 x] w fun e w' => e = .returned (.int .i64 (Lib.ctz 64 x : Nat)) ∧ w = w' := by
  obtain ⟨hlow, hk⟩ := Lib.lowest_bit 64 x hx0 hx
  obtain ⟨hi, htab⟩ := Lib.deBruijn64_at _ hk
  have hcell := hT _ hi
  rw [htab] at hcell
  exact tz64_core x _ _ w (by simp; omega) (tz64_key x _ hx hx0 hlow) hi hk hcell
theorem tz_any (x : Nat) (hx : x < 256) (hx0 : x ≠ 0) (w : World) (hT : Env w) :
    Calls Tryd.prog 121 #[.int .u64 x] w fun e w' => e = .returned (.int .i64 (Lib.ctz 64 x : Nat)) ∧ w = w' := by
  have HT := Lib.hid (tz64_any x (by omega) hx0 w hT)
  have hc : IntKind.u64.wrap (x : Int) = (x : Int) := by rw [IntKind.wrap_u64]; omega
  clear hT
  go_enter Tryd.func121, Tryd.ntmps121
  go_wp2_with fail
  refine HT.out.mono ?_
  rintro e w' ⟨rfl, rfl⟩
  go_wp2_with fail
  go_ret
  exact ⟨rfl, rfl⟩
theorem least_any (x : Nat) (hx : x < 256) (hx0 : x ≠ 0) (w : World) (hT : Env w) :
    Calls Tryd.prog 84 #[.int .u64 x] w fun e w' => e = .returned (.int .i64 (Lib.ctz 64 x : Nat)) ∧ w = w' := by
  have HT := Lib.hid (tz_any x hx hx0 w hT)
  have hc : IntKind.u64.wrap (x : Int) = (x : Int) := by rw [IntKind.wrap_u64]; omega
  clear hT
  go_enter Tryd.func84, Tryd.ntmps84
  go_wp2_with fail
  refine HT.out.mono ?_
  rintro e w' ⟨rfl, rfl⟩
  go_wp2_with fail
  go_ret
  exact ⟨rfl, rfl⟩
end Go.Proofs.YtdhbaegkogklgaaDoor.least

/- Guards: the contracts of the program's moveOne, moveAll and ruleOf. -/
namespace Go.Proofs.YtdhbaegkogklgaaDoor.ups
open Go.RowKit P2 words edges ints owns good adjs fns sets rets covs bags bitsI func lists least
set_option linter.unusedVariables false

theorem dif_walk {a b : Nat} (ha : a < 256) (hb : b < 256) : bits .andNot .u64 (a : Int) (b : Int) = (difN a b : Int) := by
  have h := andNot_num a (bitB b) 8 (by omega) (Nat.le_refl _) (difB a b) (fun z _ => by
    unfold difB bitB
    by_cases hz : z < 8
    · simp [hz]
    · rw [Nat.testBit_lt_two_pow (Nat.lt_of_lt_of_le ha (Nat.pow_le_pow_right (n := 2) (by decide) (show 8 ≤ z by omega)))]
      simp)
  rw [numb (n := 8) hb] at h
  exact h
/-- a function value that tells moves -/
structure FnMv (f : FuncId) (n : Nat) (l : List Ed) (all : Bool) : Prop where
  enter : ∀ (args : Array Value) (W : World), (callFunc f args).run Tryd.prog W = .ok (.enter f args) W
  call : ∀ (W : World) (v : Value) (a b : Nat), Nums W v (clos l n) → Env W → a < 2 ^ n → b < 2 ^ n → Calls Tryd.prog f #[v, .int .u64 (a : Int), .int .u64 (b : Int)] W fun e W' => e = .returned (.bool (mvB l all a b)) ∧ Below W.heap.size W W'
theorem bne0 (y : Nat) : (((y : Nat) : Int) != 0) = !(y == 0) := by
  show (!(((y : Nat) : Int) == 0)) = _
  congr 1
  rw [Bool.eq_iff_iff, beq_iff_eq, beq_iff_eq]; omega
theorem eq1 (y : Nat) : (((y : Nat) : Int) == 1) = (y == 1) := by
  rw [Bool.eq_iff_iff, beq_iff_eq, beq_iff_eq]; omega
set_option maxHeartbeats 1000000 in
set_option maxRecDepth 100000 in
theorem moveOne_any (n a b : Nat) (v : Value) (l : List Ed) (w : World) (h : Nums w v (clos l n)) (hE : Env w) (hg : P2.Good (n : Int) l) (hn : n ≤ 8) (ha : a < 2 ^ n) (hb : b < 2 ^ n) :
    Calls Tryd.prog 124 #[v, .int .u64 (a : Int), .int .u64 (b : Int)] w fun e w' => e = .returned (.bool (mvOne l a b)) ∧ w = w' := by
  obtain ⟨A, c, rfl, hcl⟩ := h.form
  have a8 := Nat.lt_of_lt_of_le ha (pow_le hn)
  have b8 := Nat.lt_of_lt_of_le hb (pow_le hn)
  have h1 := dif_walk a8 b8
  have h2 := dif_walk b8 a8
  have hl8 : difN a b < 256 := Nat.lt_of_lt_of_le (dif_lt hn ha) (pow_le hn)
  have hr8 : difN b a < 256 := Nat.lt_of_lt_of_le (dif_lt hn hb) (pow_le hn)
  have HCT := Lib.hid (count_any (difN a b) w hl8)
  have hlen := clos_len l n
  by_cases ho : onesN (difN a b) = 1
  · have n0 : difN a b ≠ 0 := fun e => by rw [e] at ho; exact absurd ho (by decide)
    have HLE := Lib.hid (least_any (difN a b) hl8 n0 w hE)
    have hcn : Lib.ctz 64 (difN a b) < n := by
      have hc := strip.ctz_hd hl8 n0
      obtain ⟨x, hx, hpx, hxe⟩ := mem_nw.1 (show strip.hd (nw (bitB (difN a b)) n) ∈ nw (bitB (difN a b)) n from by
        rw [one_list (L := nw (bitB (difN a b)) n) (by rw [nd_bits hn (dif_lt hn ha)]; exact ho)]; simp [strip.hd])
      rw [nd_bits hn (dif_lt hn ha)] at hxe
      have : ((Lib.ctz 64 (difN a b) : Nat) : Int) = strip.hd (ndN (difN a b)) := hc
      omega
    have HV : Hid (mvOne l a b = !(cloB l (Lib.ctz 64 (difN a b)) &&& difN b a == 0)) := by show _ = _; unfold mvOne; rw [ho]; rfl
    obtain ⟨g6, o6, rfl, c6⟩ := hcl _ _ (clos_at hcn)
    have hcn' : ((Lib.ctz 64 (difN a b) : Nat) : Int) < (n : Int) := by omega
    have hcb := cloB_lt' hg (Lib.ctz 64 (difN a b)) (by omega)
    have hand := bits_and_u64_nat (cloB l (Lib.ctz 64 (difN a b))) (difN b a) (by omega) (by omega)
    rw [ho] at HCT
    rw [hlen]
    clear h hcl hlen hE hcb
    generalize cloB l (Lib.ctz 64 (difN a b)) &&& difN b a = y0 at *
    generalize cloB l (Lib.ctz 64 (difN a b)) = y1 at *
    generalize Lib.ctz 64 (difN a b) = z at *
    generalize difN a b = d1 at *
    generalize difN b a = d2 at *
    go_enter Tryd.func124, Tryd.ntmps124
    go_wp2_with fail
    refine HCT.out.mono ?_
    rintro e w' ⟨rfl, rfl⟩
    go_wp2_with fail
    refine HLE.out.mono ?_
    rintro e w' ⟨rfl, rfl⟩
    go_wp2_with fail
    go_ret
    rw [HV.out]
    exact ⟨ret_bool (by first | exact bne0 _ | rfl), rfl⟩
  · have HV : Hid (mvOne l a b = false) := by show _ = _; unfold mvOne; rw [beq_eq_false_iff_ne.2 ho]; rfl
    have ho1 : ((onesN (difN a b) : Int) == 1) = false := by rw [beq_eq_false_iff_ne]; omega
    have ho2 : (onesN (difN a b) == 1) = false := by rw [beq_eq_false_iff_ne]; omega
    rw [hlen]
    clear h hcl hlen hE ho
    generalize onesN (difN a b) = q at *
    generalize difN a b = d1 at *
    generalize difN b a = d2 at *
    go_enter Tryd.func124, Tryd.ntmps124
    go_wp2_with fail
    refine HCT.out.mono ?_
    rintro e w' ⟨rfl, rfl⟩
    go_wp2_with fail
    go_ret
    rw [HV.out]
    exact ⟨rfl, rfl⟩
set_option maxHeartbeats 1000000 in
set_option maxRecDepth 100000 in
theorem moveAll_any (n a b : Nat) (v : Value) (l : List Ed) (w : World) (h : Nums w v (clos l n)) (hg : P2.Good (n : Int) l) (hn : n ≤ 8) (ha : a < 2 ^ n) (hb : b < 2 ^ n) :
    Calls Tryd.prog 123 #[v, .int .u64 (a : Int), .int .u64 (b : Int)] w fun e w' => e = .returned (.bool (mvAll l a b)) ∧ Below w.heap.size w w' := by
  obtain ⟨A, c, rfl, -⟩ := h.form
  have a8 := Nat.lt_of_lt_of_le ha (pow_le hn)
  have b8 := Nat.lt_of_lt_of_le hb (pow_le hn)
  have HN1 := Lib.hid (nodes_any a w (by omega))
  rw [show nw (bitB a) 8 = ndN a from rfl] at HN1
  have HN2 := Lib.hid (fun (W : World) => nodes_any b W (by omega))
  have HH := Lib.hid h
  have HCN := Lib.hid (fun (W : World) (u1 u2 : Value) (hW : Below w.heap.size w W) (h1 : Ints W u1 (ndN a)) (h2 : Ints W u2 (ndN b)) =>
    canMove_any n l (lsN b) (.slice A (clos l n).length c) u2 hg hn (by rw [lsN_len]; exact ones_le _) (fun y hy => (lsN_mem hn hb hy).1) (lsN a) (fun y hy => (lsN_mem hn ha hy).1) (by rw [lsN_len]; exact ones_le _) u1 0 W (by decide) (HH.out.below hW) h1 h2)
  clear h
  go_enter Tryd.func123, Tryd.ntmps123
  go_wp2_with fail
  refine HN1.out.mono ?_
  rintro e w1 ⟨A1, c1, rfl, o1, b1⟩
  have HB1 := Lib.hid b1
  have HO1 := Lib.hid o1
  clear o1 b1
  go_wp2_with fail
  refine (HN2.out w1).mono ?_
  rintro e w2 ⟨A2, c2, rfl, o2, b2⟩
  rw [show nw (bitB b) 8 = ndN b from rfl] at o2 ⊢
  have HB2 := Lib.hid (btrans HB1.out b2)
  have HC2 := Lib.hid (HCN.out w2 _ _ HB2.out (show Ints w2 _ _ from Reads.of_own (own_below HO1.out b2)) (show Ints w2 _ _ from Reads.of_own o2))
  clear o2 b2
  go_wp2_with fail
  refine HC2.out.mono ?_
  rintro e w3 ⟨rfl, m, rfl⟩
  go_wp2_with fail
  go_ret
  exact ⟨rfl, below_drewN HB2.out m⟩
def ruleF (all : Bool) : FuncId := if all then 123 else 124
theorem rule_mv {n : Nat} {l : List Ed} (hg : P2.Good (n : Int) l) (hn : n ≤ 8) (all : Bool) : FnMv (ruleF all) n l all := by
  cases all with
  | true => exact { enter := fun _ _ => by kernel_rfl, call := fun W v a b h _ ha hb => moveAll_any n a b v l W h hg hn ha hb }
  | false => exact { enter := fun _ _ => by kernel_rfl, call := fun W v a b h hE ha hb => (moveOne_any n a b v l W h hE hg hn ha hb).mono fun _ _ ⟨h1, h2⟩ => ⟨h1, by subst h2; exact Below.refl _ _⟩ }
theorem ruleOf_any (all : Bool) (w : World) : Calls Tryd.prog 95 #[.bool all] w fun e w' => e = .returned (.func (.func (ruleF all)) #[] #[]) ∧ w = w' := by
  cases all with
  | true =>
    go_enter Tryd.func95, Tryd.ntmps95
    go_wp2_with fail
    go_ret
    exact ⟨rfl, rfl⟩
  | false =>
    go_enter Tryd.func95, Tryd.ntmps95
    go_wp2_with fail
    go_ret
    exact ⟨rfl, rfl⟩
end Go.Proofs.YtdhbaegkogklgaaDoor.ups

/- The contract of the program's resultsOf with the nodes of sets. -/
namespace Go.Proofs.YtdhbaegkogklgaaDoor.ups
open Go.RowKit P2 words edges ints owns good adjs fns sets rets covs bitsI func grid
set_option linter.unusedVariables false

/-- the lists of the nodes of sets -/
def rowN (L : List Nat) : List (List Int) := L.map ndN
theorem rowN_len (L : List Nat) : (rowN L).length = L.length := List.length_map _
theorem rowN_at {L : List Nat} {i c : Nat} (h : L[i]? = some c) : (rowN L)[i]? = some (ndN c) := by simp [rowN, h]
/-- so many rows are done -/
def rowT (L : List Nat) (k : Nat) : List (List Int) := rowN (L.take k) ++ List.replicate (L.length - k) []
theorem rowT_zero (L : List Nat) : rowT L 0 = List.replicate L.length [] := by simp [rowT, rowN]
theorem rowT_all (L : List Nat) : rowT L L.length = rowN L := by simp [rowT]
theorem rowT_len (L : List Nat) {k : Nat} (h : k ≤ L.length) : (rowT L k).length = L.length := by simp [rowT, rowN]; omega
theorem rowT_succ {L : List Nat} {k c : Nat} (h : L[k]? = some c) : (rowT L k).set k (ndN c) = rowT L (k + 1) := by
  have hk := (List.getElem?_eq_some_iff.1 h).1
  have hl : (rowN (L.take k)).length = k := by rw [rowN_len, List.length_take]; omega
  unfold rowT
  obtain ⟨m, hm⟩ : ∃ m, L.length - k = m + 1 := ⟨L.length - k - 1, by omega⟩
  rw [List.set_append, if_neg (by omega), hl, Nat.sub_self, hm, List.replicate_succ, List.set_cons_zero, List.take_add_one, h, show L.length - (k + 1) = m from by omega]
  unfold rowN
  rw [List.map_append, List.append_assoc]
  rfl
set_option maxHeartbeats 4000000 in
set_option maxRecDepth 100000 in
theorem resultsNd_any (u : Value) (L : List Nat) (w : World) (hu : Nums w u L) (hL : ∀ c ∈ L, c < 256) (hl : L.length ≤ 1048576) :
    Calls Tryd.prog 63 #[u, .func (.func 60) #[] #[]] w fun e w' => ∃ A c us, e = .returned (.slice A L.length c) ∧ OwnG w' w.heap.size (.slice A (rowN L).length c) us (rowN L) ∧ Below w.heap.size w w' := by
  obtain ⟨A, c, rfl, hc⟩ := hu.form
  have HU := Lib.hid hu
  have hent : ∀ (args : Array Value) (W : World), (callFunc 60 args).run Tryd.prog W = .ok (.enter 60 args) W := fun _ _ => by kernel_rfl
  have HM := Lib.hid (OwnG.made w L.length (by unfold maxLen; omega))
  have HB2 := Lib.hid ((Below.refl w.heap.size w).alloc (Nat.le_refl _) (.cells (madeCells #[.slice none 0 0] (L.length * 1)) 25))
  have HCL := Lib.hid hL
  clear hu hc hL
  obtain ⟨i1, hi1, hy0, hy1, hy2⟩ := info_parts infoRow
  have hmk := fun (W : World) => run_make_rowN (P := Tryd.prog) 40 25 i1 (.slice none 0 0) Tryd.underlying40 hi1 hy0 .i64 .i64 L.length L.length (Nat.le_refl _) (by rw [hy2]; omega) (by omega) W
  rw [hy1] at hmk
  rw [Nat.mul_one] at HM HB2
  go_enter Tryd.func63, Tryd.ntmps63
  go_wp2_with fail
  go_loopg [6, 7, 13] L.length (fun g _ _ i wr => ∃ (k : Nat) (us : List Value), k + g = L.length ∧ i = .int .i64 (k : Int) ∧ OwnG wr w.heap.size (.slice (some ⟨w.heap.size, 0, none⟩) L.length L.length) us (rowT L k) ∧ Below w.heap.size w wr)
  case atStart => exact ⟨0, _, by omega, rfl, by rw [rowT_zero]; exact HM.out, HB2.out⟩
  case round =>
    clear HM HB2 hmk
    obtain ⟨k, us, hkg, rfl, hG, hB⟩ := hrel
    cases gk with
    | zero =>
      obtain rfl : k = L.length := by omega
      rw [rowT_all] at hG
      have HR := Lib.hid hG
      have HB := Lib.hid hB
      clear hG hB
      go_wp2_with fail
      go_ret
      exact ⟨_, _, us, rfl, by rw [rowN_len]; exact HR.out, HB.out⟩
    | succ g2 =>
      have hlt : k < L.length := by omega
      have hlt' : (k : Int) < (L.length : Int) := by omega
      obtain ⟨x, hx⟩ : ∃ x, L[k]? = some x := ⟨_, List.getElem?_eq_getElem hlt⟩
      have hx8 := HCL.out x (List.mem_of_getElem? hx)
      obtain ⟨_, _, hf2, hcc⟩ := (show Nums wr (.slice A L.length c) L from HU.out.below hB).form
      cases hf2
      obtain ⟨g5, o5, rfl, c5⟩ := hcc k x hx
      have HD := Lib.hid (nodes_any x wr (by omega))
      rw [show nw (bitB x) 8 = ndN x from rfl] at HD
      have HG := Lib.hid hG
      have HB := Lib.hid hB
      have HX := Lib.hid hx
      clear hG hB hx hcc
      go_wp2_with fail
      refine HD.out.mono ?_
      rintro e w3 ⟨A3, c3, rfl, o3, b3⟩
      have hG3 := HG.out.below b3
      have hrl := rowT_len L (k := k) (by omega)
      have h1 := hG3.1
      rw [hrl] at h1
      have hul := hG3.len
      rw [hrl] at hul
      obtain ⟨u0, hu0⟩ : ∃ u, us[k]? = some u := ⟨_, List.getElem?_eq_getElem (by omega)⟩
      have f0 := h1.cellAt k (by omega)
      rw [hu0] at f0
      have z0 := h1.frozenAt k
      have HS : Hid (OwnG (w3.setCell ⟨w.heap.size, k, none⟩ (.slice A3 (ndN x).length c3)) w.heap.size (.slice (some ⟨w.heap.size, 0, none⟩) L.length L.length) (us.set k (.slice A3 (ndN x).length c3)) (rowT L (k + 1))) := by
        have h9 : OwnG w3 w.heap.size (.slice (some ⟨w.heap.size, 0, none⟩) (rowT L k).length L.length) us (rowT L k) := by rw [hrl]; exact hG3
        have hfr := OwnG.fresh HG.out o3
        have := OwnG.store h9 (by rw [hrl]; exact hlt) (own_base o3 HB.out.size) (fun i x b _ hx hb => hfr i x b hx hb)
        rw [rowT_succ HX.out, hrl] at this
        exact this
      have HB3 := Lib.hid (btrans HB.out b3)
      clear hG3 h1 hrl hul hu0 c5
      go_wp2_with fail
      go_roundg g2
      case measure => omega
      case rel => exact ⟨k + 1, _, by omega, by go_num, HS.out, HB3.out.setCell (Nat.le_refl _) _⟩
end Go.Proofs.YtdhbaegkogklgaaDoor.ups

/- slices.DeleteFunc over a row of sets of the call's own. -/
namespace Go.Proofs.YtdhbaegkogklgaaDoor.ups
open Go.RowKit P2 words edges ints good adjs fns sets rets covs bitsI func
set_option linter.unusedVariables false

/-- a function value that answers for the elements of a list of words, in every world of a kind -/
structure FnK (K : World → Prop) (f : FuncId) (caps : Array Value) (xs : List Nat) (p : Nat → Bool) : Prop where
  enter : ∀ (args : Array Value) (W : World), (callFunc f args).run Tryd.prog W = .ok (.enter f args) W
  call : ∀ W, K W → ∀ x ∈ xs, Calls Tryd.prog f (#[.int .u64 (x : Int)] ++ caps) W fun e W' => e = .returned (.bool (p x)) ∧ Below W.heap.size W W'
/-- what stands wherever a row's block is written to -/
structure Kind (K : World → Prop) (v : Value) : Prop where
  go : ∀ W W', K W → Below W.heap.size W W' → K W'
  set : ∀ g, v.ownBlock = some g → ∀ W j u, K W → K (W.setCell ⟨g, j, none⟩ u)
theorem own_cut {w : World} {B g n c i : Nat} {t : TypeId} {xs : List Value} (h : w.ownsRow B t 1 (.slice (some ⟨g, 0, none⟩) n c) n xs) (hi : i ≤ n) : w.ownsRow B t 1 (.slice (some ⟨g, 0, none⟩) i c) i (xs.take i) := by
  refine ⟨by rw [List.length_take, h.1]; omega, ?_⟩
  rcases h.2 with ⟨h', _⟩ | ⟨g', cap', cur, h', hb, hg, hnc, hcm, hcs, htake⟩
  · simp at h'
  · simp only [Value.slice.injEq, Option.some.injEq, Addr.mk.injEq, and_true, true_and] at h'
    obtain ⟨rfl, rfl⟩ := h'
    exact .inr ⟨g, c, cur, rfl, hb, hg, by omega, hcm, hcs, by rw [← htake, List.take_take]; congr 1; omega⟩
theorem own_setCells {B g n c : Nat} {t : TypeId} : ∀ (vs : List Value) (o : Nat) (w : World) (xs : List Value), w.ownsRow B t 1 (.slice (some ⟨g, 0, none⟩) n c) n xs → ∃ ys, (w.setCells g o vs).ownsRow B t 1 (.slice (some ⟨g, 0, none⟩) n c) n ys ∧ ys.take o = xs.take o
  | [], o, w, xs, h => ⟨xs, h, rfl⟩
  | v :: vs, o, w, xs, h => by
    obtain ⟨ys, h1, h2⟩ := own_setCells vs (o + 1) _ _ (h.stored o v).1
    refine ⟨ys, h1, ?_⟩
    have := congrArg (List.take o) h2
    rw [List.take_take, List.take_take, Nat.min_eq_left (by omega), List.take_set, List.set_eq_of_length_le (by rw [List.length_take]; omega)] at this
    exact this
theorem kind_setCells {K : World → Prop} {g : Nat} (hK : ∀ W j u, K W → K (W.setCell ⟨g, j, none⟩ u)) : ∀ (vs : List Value) (o : Nat) (w : World), K w → K (w.setCells g o vs)
  | [], o, w, h => h
  | v :: vs, o, w, h => kind_setCells hK vs (o + 1) _ (hK w o v h)
/-- the row while what is struck is written over: what is kept of the first j, anything, the rest -/
def DelR (p : Nat → Bool) (xs : List Nat) (i j : Nat) (L : List Nat) : Prop := L.length = xs.length ∧ i ≤ j ∧ L.take i = (xs.take j).filter (fun x => !p x) ∧ L.drop j = xs.drop j
theorem DelR.at_ {p : Nat → Bool} {xs : List Nat} {i j : Nat} {L : List Nat} (h : DelR p xs i j L) (hj : j < xs.length) : L[j]? = xs[j]? := by
  have := congrArg (fun z : List Nat => z[0]?) h.2.2.2
  simpa using this
theorem DelR.skip {p : Nat → Bool} {xs : List Nat} {i j x : Nat} {L : List Nat} (h : DelR p xs i j L) (hx : xs[j]? = some x) (hp : p x = true) : DelR p xs i (j + 1) L :=
  ⟨h.1, by have := h.2.1; omega, by rw [h.2.2.1, List.take_add_one, hx, List.filter_append]; simp [hp], by rw [← List.drop_drop, h.2.2.2, List.drop_drop]⟩
theorem DelR.keep {p : Nat → Bool} {xs : List Nat} {i j x : Nat} {L : List Nat} (h : DelR p xs i j L) (hx : xs[j]? = some x) (hp : p x = false) : DelR p xs (i + 1) (j + 1) (L.set i x) := by
  obtain ⟨h1, h2, h3, h4⟩ := h
  have hj := (List.getElem?_eq_some_iff.1 hx).1
  refine ⟨by simpa using h1, by omega, ?_, ?_⟩
  · have hi : i < L.length := by omega
    rw [show (xs.take (j + 1)) = xs.take j ++ [x] from by rw [List.take_add_one, hx]; rfl, List.filter_append, List.take_add_one, List.getElem?_set_self hi, List.take_set, List.set_eq_of_length_le (by rw [List.length_take]; omega), h3]
    simp [hp]
  · rw [List.drop_set_of_lt (by omega), ← List.drop_drop, h4, List.drop_drop]
theorem DelR.done {p : Nat → Bool} {xs : List Nat} {i j : Nat} {L : List Nat} (h : DelR p xs i j L) (hj : xs.length ≤ j) : L.take i = xs.filter (fun x => !p x) := by
  rw [h.2.2.1, List.take_of_length_le hj]
theorem DelR.first {p : Nat → Bool} {xs : List Nat} {i x : Nat} (hx : xs[i]? = some x) (hp : p x = true) (hf : ∀ j z, j < i → xs[j]? = some z → p z = false) : DelR p xs i (i + 1) xs :=
  ⟨rfl, by omega, by
    rw [List.take_add_one, hx, List.filter_append]
    have : (xs.take i).filter (fun x => !p x) = xs.take i := by
      rw [List.filter_eq_self]
      intro a ha
      obtain ⟨j, hj⟩ := List.getElem?_of_mem ha
      have hji : j < i := by have := (List.getElem?_eq_some_iff.1 hj).1; rw [List.length_take] at this; omega
      rw [List.getElem?_take_of_lt hji] at hj
      rw [hf j a hji hj]; rfl
    rw [this]; simp [hp], rfl⟩
theorem idxF_case {p : Nat → Bool} (xs : List Nat) : (idxF p xs = -1 ∧ xs.filter (fun x => !p x) = xs) ∨ ∃ i x, idxF p xs = ((i : Nat) : Int) ∧ xs[i]? = some x ∧ p x = true ∧ ∀ j z, j < i → xs[j]? = some z → p z = false := by
  by_cases h : ∃ x ∈ xs, p x = true
  · obtain ⟨x, hx, hp⟩ := h
    exact .inr (idxF_some hx hp)
  · left
    have hno : ∀ x ∈ xs, p x = false := fun x hx => by
      cases hp : p x
      · rfl
      · exact absurd ⟨x, hx, hp⟩ h
    refine ⟨?_, List.filter_eq_self.2 fun x hx => by rw [hno x hx]; rfl⟩
    unfold idxF
    rw [List.findIdx?_eq_none_iff.2 hno]
set_option maxHeartbeats 8000000 in
set_option maxRecDepth 100000 in
theorem deleteFuncU_own (B : Nat) (v : Value) (xs : List Nat) (f : FuncId) (caps : Array Value) (p : Nat → Bool) (K : World → Prop) (w : World) (ho : w.ownsRow B 70 1 v xs.length (cellsU xs)) (hxl : xs.length ≤ 1048576) (hK : Kind K v) (h : FnK K f caps xs p) (hw : K w) :
    Calls Tryd.prog 97 #[v, .func (.func f) #[] caps] w fun e w' => ∃ A c, e = .returned (.slice A (xs.filter fun x => !p x).length c) ∧ w'.ownsRow B 70 1 (.slice A (xs.filter fun x => !p x).length c) (xs.filter fun x => !p x).length (cellsU (xs.filter fun x => !p x)) ∧ (Value.slice A (xs.filter fun x => !p x).length c).ownBlock = v.ownBlock ∧ K w' := by
  obtain ⟨A, c, rfl⟩ := own_form ho
  have hent := h.enter
  have HIX := Lib.hid (indexFuncU_any (.slice A xs.length c) xs f caps p w (Reads.of_own ho) hxl { enter := h.enter, call := fun W hW x hx => h.call W (hK.go w W hw hW) x hx })
  have HF := Lib.hid h.call
  have HGO := Lib.hid hK.go
  rcases idxF_case (p := p) xs with ⟨hi, hfe⟩ | ⟨i0, x0, hi, hx0, hp0, hf0⟩
  · rw [hi] at HIX
    rw [hfe]
    have HO := Lib.hid ho
    have HW := Lib.hid hw
    clear h hK hw ho hi hfe
    go_enter Tryd.func97, Tryd.ntmps97
    go_wp2_with fail
    refine HIX.out.mono ?_
    rintro e w1 ⟨rfl, b1⟩
    go_wp2_with fail
    go_ret
    exact ⟨A, c, rfl, own_below HO.out b1, rfl, HGO.out _ _ HW.out b1⟩
  · rw [hi] at HIX
    have hi0 := (List.getElem?_eq_some_iff.1 hx0).1
    obtain ⟨g, rfl, hnc⟩ : ∃ g, A = some ⟨g, 0, none⟩ ∧ xs.length ≤ c := by
      rcases ho.2 with ⟨_, h2⟩ | ⟨g, cap, cur, hv, _, _, hnc, _⟩
      · omega
      · cases hv; exact ⟨g, rfl, hnc⟩
    have HST := Lib.hid (hK.set g rfl)
    have HO := Lib.hid ho
    have HW := Lib.hid hw
    have HD0 := Lib.hid (DelR.first hx0 hp0 hf0)
    have hne1 : ((i0 : Int) == -1) = false := beq_eq_false_iff_ne.2 (by omega)
    clear h hK hw ho hi hx0 hp0 hf0
    go_enter Tryd.func97, Tryd.ntmps97
    go_wp2_with fail
    refine HIX.out.mono ?_
    rintro e w1 ⟨rfl, b1⟩
    have HO1 := Lib.hid (own_below HO.out b1)
    have HW1 := Lib.hid (HGO.out _ _ HW.out b1)
    clear b1 HO HW HIX
    go_wp2_with fail
    go_loopg [5, 6, 7] (xs.length - (i0 + 1)) (fun gg s5 s6 s7 wr => ∃ (i j : Nat) (L : List Nat), s5 = .int .i64 (i : Int) ∧ s6 = .int .i64 (j : Int) ∧ j + gg = xs.length ∧ i < j ∧ Hid (DelR p xs i j L) ∧ wr.ownsRow B 70 1 (.slice (some ⟨g, 0, none⟩) xs.length c) xs.length (cellsU L) ∧ Hid (K wr))
    case atStart => exact ⟨i0, i0 + 1, xs, rfl, by go_num, by omega, by omega, HD0, HO1.out, HW1⟩
    case round =>
      clear HD0 HO1 HW1
      obtain ⟨i, j, L, rfl, rfl, hjg, hij, hdl, hrow, hkw⟩ := hrel
      have hLl := hdl.out.1
      cases gk with
      | zero =>
        obtain rfl : j = xs.length := by omega
        have hin : i < xs.length := hij
        have hci : ¬ c = i := by omega
        have hci2 : (c == i) = false := beq_eq_false_iff_ne.2 hci
        have HFI := Lib.hid (hdl.out.done (Nat.le_refl _))
        have hcl : ∀ ty, (Builtin.clear_ #[63] ty #[.slice (some ⟨g, i, none⟩) (xs.length - i) (c - i)]).run Tryd.prog wr = .ok (.tuple #[]) (wr.setCells g i (List.replicate (xs.length - i) (.int .u64 0))) :=
          fun ty => Lib.run_clear_slice wr _ 70 ty (.int .u64 0) Tryd.underlying63 (by intro w; rfl) rfl rfl g i _ _ (by omega) (fun k hk => by rw [hrow.cellAt (i + k) (by omega)]; rw [show (cellsU L)[i + k]? = some ((cellsU L)[i + k]'(by rw [cellsU_len]; omega)) from List.getElem?_eq_getElem _]; rfl) (fun k hk => hrow.frozenAt _)
        obtain ⟨ys, hown, hys⟩ := own_setCells (List.replicate (xs.length - i) (.int .u64 0)) i wr (cellsU L) hrow
        have hcut := own_cut hown (Nat.le_of_lt hin)
        rw [hys, show (cellsU L).take i = cellsU (L.take i) from (List.map_take).symm, HFI.out] at hcut
        have HKN := Lib.hid (kind_setCells HST.out (List.replicate (xs.length - i) (.int .u64 0)) i wr hkw.out)
        have HIL : Hid ((xs.filter fun x => !p x).length = i) := by
          show _ = _
          rw [← HFI.out, List.length_take]; omega
        have HCUT := Lib.hid hcut
        clear hrow hdl hLl hown hys hcut
        go_wp2_with fail
        go_ret
        rw [HIL.out]
        exact ⟨_, c, rfl, HCUT.out, rfl, HKN.out⟩
      | succ g2 =>
        have hlt : j < xs.length := by omega
        have hlt' : (j : Int) < (xs.length : Int) := by omega
        obtain ⟨x, hx⟩ : ∃ x, xs[j]? = some x := ⟨_, List.getElem?_eq_getElem hlt⟩
        have f0 := hrow.cellAt j (by omega)
        rw [cellsU_at ((hdl.out.at_ hlt).trans hx)] at f0
        have HC := Lib.hid (HF.out wr hkw.out x (List.mem_of_getElem? hx))
        have HROW := Lib.hid hrow
        cases hp : p x with
        | true =>
          have HN := Lib.hid (hdl.out.skip hx hp)
          rw [hp] at HC
          clear hx hp hrow hLl
          go_wp2_with fail
          refine HC.out.mono ?_
          rintro e w2 ⟨rfl, b2⟩
          have HO2 := Lib.hid (own_below HROW.out b2)
          have HW2 := Lib.hid (HGO.out _ _ hkw.out b2)
          clear b2 f0
          go_wp2_with fail
          go_roundg g2
          case measure => omega
          case rel => exact ⟨i, j + 1, L, rfl, by go_num, by omega, by omega, HN, HO2.out, HW2⟩
        | false =>
          have HN := Lib.hid (hdl.out.keep hx hp)
          rw [hp] at HC
          have hii : i < xs.length := by omega
          have hii' : (i : Int) < (xs.length : Int) := by omega
          obtain ⟨y, hy⟩ : ∃ y, L[i]? = some y := ⟨_, List.getElem?_eq_getElem (by omega)⟩
          have HY := Lib.hid (cellsU_at hy)
          clear hx hp hy hrow hLl
          go_wp2_with fail
          refine HC.out.mono ?_
          rintro e w2 ⟨rfl, b2⟩
          have hrow2 := own_below HROW.out b2
          have HW2 := Lib.hid (HGO.out _ _ hkw.out b2)
          have f1 := hrow2.cellAt i (by omega)
          rw [HY.out] at f1
          have z1 := hrow2.frozenAt i
          have hst := (hrow2.stored i (.int .u64 (x : Int))).1
          rw [cellsU_set] at hst
          have HST2 := Lib.hid hst
          have HK2 := Lib.hid (HST.out w2 i (.int .u64 (x : Int)) HW2.out)
          clear b2 f0 hst hrow2
          go_wp2_with fail
          go_roundg g2
          case measure => omega
          case rel => exact ⟨i + 1, j + 1, L.set i x, by go_num, by go_num, by omega, by omega, HN, HST2.out, HK2⟩
end Go.Proofs.YtdhbaegkogklgaaDoor.ups

/- All lists of so many elements of a list, in order: mathematics. -/
namespace Go.Proofs.YtdhbaegkogklgaaDoor.ups
open Go.RowKit P2 words edges ints good adjs fns sets rets covs bitsI
set_option linter.unusedVariables false

/-- the lists of d elements of a list, in order -/
def chL : List Int → Nat → List (List Int)
  | _, 0 => [[]]
  | [], _ + 1 => []
  | x :: r, d + 1 => (chL r d).map (x :: ·) ++ chL r (d + 1)
theorem chL_len : ∀ (xs : List Int) (d : Nat), (chL xs d).length ≤ 2 ^ xs.length
  | xs, 0 => by unfold chL; exact Nat.one_le_two_pow
  | [], _ + 1 => by unfold chL; simp
  | x :: r, d + 1 => by
    unfold chL
    rw [List.length_append, List.length_map, List.length_cons, Nat.pow_succ]
    have := chL_len r d
    have := chL_len r (d + 1)
    omega
theorem chL_row : ∀ (xs : List Int) (d : Nat) (r : List Int), r ∈ chL xs d → r.length = d
  | xs, 0, r, h => by unfold chL at h; simp at h; subst h; rfl
  | [], _ + 1, r, h => by unfold chL at h; simp at h
  | x :: xs, d + 1, r, h => by
    unfold chL at h
    rcases List.mem_append.1 h with h | h
    · obtain ⟨q, hq, rfl⟩ := List.mem_map.1 h
      rw [List.length_cons, chL_row xs d q hq]
    · exact chL_row xs (d + 1) r h
theorem chL_short : ∀ (xs : List Int) (d : Nat), xs.length < d → chL xs d = []
  | xs, 0, h => by omega
  | [], _ + 1, h => by unfold chL; rfl
  | x :: xs, d + 1, h => by
    rw [List.length_cons] at h
    unfold chL
    rw [chL_short xs d (by omega), chL_short xs (d + 1) (by omega)]; rfl
theorem chL_drop {xs : List Int} {i : Nat} {x : Int} (h : xs[i]? = some x) (d : Nat) : chL (xs.drop i) (d + 1) = (chL (xs.drop (i + 1)) d).map (x :: ·) ++ chL (xs.drop (i + 1)) (d + 1) := by
  obtain ⟨h1, h2⟩ := List.getElem?_eq_some_iff.1 h
  rw [List.drop_eq_getElem_cons h1, h2]
  rfl
theorem take_cons {Ls : List (List Int)} {j : Nat} {L : List Int} (x : Int) (h : Ls[j]? = some L) : (Ls.take (j + 1)).map (x :: ·) = (Ls.take j).map (x :: ·) ++ [x :: L] := by
  rw [List.take_add_one, h, List.map_append]; rfl
/-- the sets of k of n nodes, in order -/
def setsK (n k : Nat) : List Nat := (setsN n k).filter (fun x => !decide (onesN x < k))
theorem chL_sets : ∀ n : Fin 9, ∀ k : Fin 9, chL (allN n.1) k.1 = rowN (setsK n.1 k.1) := by decide +kernel
theorem setsK_mem {n k c : Nat} (hn : n ≤ 8) (hk : k ≤ 8) : c ∈ setsK n k ↔ c < 2 ^ n ∧ onesN c = k := by
  unfold setsK
  rw [List.mem_filter, mem_sets hn hk]
  simp
  omega
theorem setsK_len {n k : Nat} (hn : n ≤ 8) (hk : k ≤ 8) : (setsK n k).length ≤ 256 := Nat.le_trans (List.length_filter_le _ _) (sets_len hn hk)
end Go.Proofs.YtdhbaegkogklgaaDoor.ups

/- The contract of the program's setsOf. -/
namespace Go.Proofs.YtdhbaegkogklgaaDoor.ups
open Go.RowKit P2 words edges ints owns good adjs fns sets rets covs bitsI func
set_option linter.unusedVariables false

set_option maxHeartbeats 1000000 in
set_option maxRecDepth 100000 in
theorem setsOfClo_any (k d b1 : Nat) (w : World) (h1 : w.cell? ⟨b1, 0, none⟩ = some (.int .i64 (k : Int))) (hd : d < 256) :
    Calls Tryd.prog 125 #[.int .u64 (d : Int), .pointer (some ⟨b1, 0, none⟩)] w fun e w' => e = .returned (.bool (decide (onesN d < k))) ∧ Below w.heap.size w w' := by
  have HCT := Lib.hid (fun (nq : Nat) => count_any d (w.drewN nq) hd)
  have HV : Hid (decide ((onesN d : Int) < (k : Int)) = decide (onesN d < k)) := by
    show _ = _
    rw [decide_eq_decide]; omega
  go_enter Tryd.func125, Tryd.ntmps125
  go_wp2_with fail
  go_quiet (first | (go_at_call 120; exact quiet_left (HCT.out _)))
  go_wp2_with fail
  go_ret
  exact ⟨ret_bool (by first | rfl | exact HV.out), below_drewN (Below.refl _ _) _⟩
set_option maxHeartbeats 2000000 in
set_option maxRecDepth 100000 in
theorem setsOf_own (n k : Nat) (w : World) (hn : n ≤ 8) (hk : k ≤ 8) :
    Calls Tryd.prog 96 #[.int .i64 (n : Int), .int .i64 (k : Int)] w fun e w' => ∃ A c, e = .returned (.slice A (setsK n k).length c) ∧ w'.ownsRow w.heap.size 70 1 (.slice A (setsK n k).length c) (setsK n k).length (cellsU (setsK n k)) ∧ Below w.heap.size w w' := by
  have hmf : ∀ (fn : Fn) (first cap : Array Value) (w : World), (Instr.makeFunc fn first cap).run Tryd.prog w = .ok (.func fn first cap) w := fun _ _ _ _ => rfl
  have b0 : Below w.heap.size w (w.alloc (.cells #[.int .i64 (k : Int)] 3)) := (Below.refl _ _).alloc (Nat.le_refl _) _
  have g0 := Blk.new w 3 #[.int .i64 (k : Int)]
  have p0 := g0.cell 0
  have HSU := Lib.hid (setsUpTo_own n k (w.alloc (.cells #[.int .i64 (k : Int)] 3)) hn hk)
  have HB0 := Lib.hid b0
  have HG0 := Lib.hid g0
  have hsl := sets_len hn hk
  have HM8 : Hid (∀ c ∈ setsN n k, c < 256) := fun c hc => Nat.lt_of_lt_of_le ((mem_sets hn hk).1 hc).1 (pow_le hn)
  have hz1 : (w.alloc (.cells #[.int .i64 (k : Int)] 3)).heap.size = w.heap.size + 1 := World.size_alloc _ _
  clear b0 g0
  have HZ1 := Lib.hid hz1
  clear hz1
  go_enter Tryd.func96, Tryd.ntmps96
  go_wp2_with fail
  refine HSU.out.mono ?_
  rintro e w2 ⟨A2, c2, rfl, o2, b2⟩
  have hg2 := HG0.out.below b2 HG0.out.lt
  have HDEL := Lib.hid (deleteFuncU_own w.heap.size (.slice A2 (setsN n k).length c2) (setsN n k) 125 #[.pointer (some ⟨w.heap.size, 0, none⟩)] (fun x => decide (onesN x < k)) (fun W => Below (w.heap.size + 1) w2 W ∧ w2.heap.size ≤ W.heap.size) w2 (own_base o2 (by rw [HZ1.out]; omega)) (by omega)
    { go := fun W W' h1 h2 => ⟨h1.1.trans (h2.mono (by have := b2.size; rw [HZ1.out] at this; have := h1.2; omega)), Nat.le_trans h1.2 h2.size⟩
      set := fun g hg W j u h => ⟨h.1.setCell (p := ⟨g, j, none⟩) (by have := (o2.lt g hg).1; rw [HZ1.out] at this; exact this) u, by simpa using h.2⟩ }
    { enter := fun _ _ => by kernel_rfl
      call := fun W hW x hx => setsOfClo_any k x w.heap.size W ((hW.1.cell (p := ⟨w.heap.size, 0, none⟩) (Nat.lt_succ_self _)).trans (hg2.cell 0)) (HM8.out x hx) } ⟨Below.refl _ _, Nat.le_refl _⟩)
  have hb2 := btrans HB0.out b2
  have HB2 := Lib.hid hb2
  have p1 := hg2.cell 0
  clear hb2 o2 b2 hg2 p0
  go_wp2_with fail
  refine HDEL.out.mono ?_
  rintro e w3 ⟨A3, c3, rfl, o3, -, hk3⟩
  go_wp2_with fail
  go_ret
  exact ⟨A3, c3, rfl, o3, HB2.out.trans (hk3.1.mono (by omega))⟩
end Go.Proofs.YtdhbaegkogklgaaDoor.ups
