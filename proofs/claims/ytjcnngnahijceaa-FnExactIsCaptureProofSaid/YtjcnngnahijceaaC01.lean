/- Lists of cops, and the nodes that they guard. It imports nothing of the program. -/
import Derived.Test.YtjcnngnahijceaaCov
import Derived.Test.YtjcnngnahijceaaBall
import Derived.Handy
import Derived.Test.YtjcnngnahijceaaNearV
import Derived.Deep.DeepCutAuto
import Derived.Deep.QuietTactic
import Derived.BigQuiet
import Derived.Deep.RegionHeld3
import Derived.Test.YtjcnngnahijceaaGood
import Derived.Test.YtjcnngnahijceaaGoodS
import Derived.Test.YtjcnngnahijceaaRet
import Derived.Test.YtjcnngnahijceaaListS
import Derived.Test.YtjcnngnahijceaaGameF
import Derived.Test.YtjcnngnahijceaaTimeL
import Derived.Deep.AppendLies
import Derived.Deep.RegionHeldLaw
import Derived.Test.YtjcnngnahijceaaMovM
import Derived.Test.YtjcnngnahijceaaTrip
namespace Go.Proofs.Ytjcnngnahijceaa.cops
open Go.RowKit P2 words edges ints good adjs fns sets rets covs balls
set_option linter.unusedVariables false

/-- in ascending order, some may be the same -/
def Up (l : List Int) : Prop := l.Pairwise (· ≤ ·)
def UpFrom (l : List Int) (k : Nat) : Prop := ∀ j x y, k ≤ j → l[j]? = some x → l[j + 1]? = some y → x ≤ y
theorem UpFrom.start (l : List Int) (k : Nat) (h : l.length ≤ k + 1) : UpFrom l k := fun j x y hj _ hy => by
  have := (List.getElem?_eq_some_iff.1 hy).1; omega
theorem UpFrom.pred {l : List Int} {k : Nat} (h : UpFrom l (k + 1)) (hk : ∀ x y, l[k]? = some x → l[k + 1]? = some y → x ≤ y) : UpFrom l k := fun j x y hj hx hy => by
  by_cases e : j = k
  · subst e; exact hk x y hx hy
  · exact h j x y (by omega) hx hy
theorem UpFrom.pair {l : List Int} (h : UpFrom l 0) : ∀ (i j : Nat) (a b : Int), i < j → l[i]? = some a → l[j]? = some b → a ≤ b := by
  intro i j
  induction j with
  | zero => intro a b hij; omega
  | succ j ih =>
    intro a b hij ha hb
    obtain ⟨c, hc⟩ : ∃ c, l[j]? = some c := ⟨_, List.getElem?_eq_getElem (by have := (List.getElem?_eq_some_iff.1 hb).1; omega)⟩
    have h1 := h j c b (by omega) hc hb
    by_cases e : i = j
    · subst e; rw [hc] at ha; cases ha; exact h1
    · have := ih a c (by omega) ha hc; omega
theorem UpFrom.up {l : List Int} (h : UpFrom l 0) : Up l := by
  unfold Up
  rw [List.pairwise_iff_getElem]
  intro i j hi hj hij
  exact h.pair i j _ _ hij (List.getElem?_eq_getElem hi) (List.getElem?_eq_getElem hj)
theorem Up.at_ {l : List Int} (h : Up l) {i j : Nat} {a b : Int} (hij : i < j) (ha : l[i]? = some a) (hb : l[j]? = some b) : a ≤ b := by
  have h1 := (List.getElem?_eq_some_iff.1 ha)
  have h2 := (List.getElem?_eq_some_iff.1 hb)
  obtain ⟨h1, rfl⟩ := h1
  obtain ⟨h2, rfl⟩ := h2
  exact List.pairwise_iff_getElem.1 h i j h1 h2 hij
theorem not_up {l : List Int} {k : Nat} {x y : Int} (hx : l[k]? = some x) (hy : l[k + 1]? = some y) (h : y < x) : ¬ Up l := fun ha => by
  have := ha.at_ (Nat.lt_succ_self k) hx hy; omega

/-- cops at nodes -/
def CopsOk (s : Int) (l : List Ed) (tl : List Int) : Prop := P2.Good s l ∧ (1 ≤ tl.length ∧ tl.length ≤ 3) ∧ (∀ x ∈ tl, 0 ≤ x ∧ x < s) ∧ Up tl

def grdN (l : List Ed) (tl : List Int) : Nat := tl.foldl (fun a x => a ||| cloB l x.toNat) 0
theorem grdN_succ {l : List Ed} {tl : List Int} {k : Nat} {x : Int} (h : tl[k]? = some x) : grdN l (tl.take (k + 1)) = grdN l (tl.take k) ||| cloB l x.toNat := by
  unfold grdN; rw [List.take_add_one, h, List.foldl_append]; rfl
theorem grd_fold (l : List Ed) (z : Nat) : ∀ (tl : List Int) (a : Nat), (tl.foldl (fun a x => a ||| cloB l x.toNat) a).testBit z = (a.testBit z || tl.any fun x => (cloB l x.toNat).testBit z)
  | [], a => by simp
  | x :: tl, a => by rw [List.foldl_cons, grd_fold l z tl, Nat.testBit_or, List.any_cons, Bool.or_assoc]
theorem grd_bit (l : List Ed) (tl : List Int) (z : Nat) : (grdN l tl).testBit z = tl.any fun x => (cloB l x.toNat).testBit z := by
  unfold grdN; rw [grd_fold]; simp
theorem grd_lt {n : Nat} {l : List Ed} {tl : List Int} (hg : P2.Good n l) (hn : n ≤ 8) (h : ∀ x ∈ tl, 0 ≤ x ∧ x < (n : Int)) (k : Nat) : grdN l (tl.take k) < 256 := by
  refine Nat.lt_pow_two_of_testBit (n := 8) _ fun i hi => ?_
  rw [grd_bit]
  cases hb : (tl.take k).any fun x => (cloB l x.toNat).testBit i with
  | false => rfl
  | true =>
    obtain ⟨x, hx, hbx⟩ := List.any_eq_true.1 hb
    have hm := h x (List.mem_of_mem_take hx)
    have := cloB_lt' hg x.toNat (by omega)
    rw [Nat.testBit_lt_two_pow (Nat.lt_of_lt_of_le this (by rw [show 256 = 2 ^ 8 from rfl]; exact Nat.pow_le_pow_right (by decide) hi))] at hbx
    cases hbx
/-- the guarded nodes -/
def grdL (l : List Ed) (n : Nat) (tl : List Int) : List Int := nw (bitB (grdN l tl)) n
theorem grd_nodes {n : Nat} {l : List Ed} {tl : List Int} (hg : P2.Good n l) (hn : n ≤ 8) (h : ∀ x ∈ tl, 0 ≤ x ∧ x < (n : Int)) : nw (bitB (grdN l tl)) 8 = grdL l n tl := nw_more hn fun k h1 h2 => by
  show (grdN l tl).testBit k = false
  rw [grd_bit]
  cases hb : tl.any fun x => (cloB l x.toNat).testBit k with
  | false => rfl
  | true =>
    obtain ⟨x, hx, hbx⟩ := List.any_eq_true.1 hb
    rw [cloB_bit hg, Bool.or_eq_true] at hbx
    have hm := h x hx
    rcases hbx with hbx | hbx
    · have : x.toNat = k := by simpa using hbx
      omega
    · have := (adj_node hg hbx).2; omega
/-- the set in the making holds the balls of the first cops, and the first nodes of the next one's -/
def GrdTo (l : List Ed) (n : Nat) (tl : List Int) (k : Nat) (bl : List Int) (j : Nat) (L : List Int) : Prop :=
  Asc L ∧ (∀ y, y ∈ L ↔ (∃ x ∈ tl.take k, y ∈ nw (ballB l x.toNat) n) ∨ y ∈ bl.take j) ∧ L.length ≤ 8 * k + j
theorem GrdTo.zero (l : List Ed) (n : Nat) (tl : List Int) : GrdTo l n tl 0 [] 0 [] := ⟨by unfold Asc; simp, fun y => by simp, by simp⟩
theorem GrdTo.first {l : List Ed} {n : Nat} {tl L : List Int} {k : Nat} (h : GrdTo l n tl k [] 0 L) (bl : List Int) : GrdTo l n tl k bl 0 L := by
  refine ⟨h.1, fun y => by rw [h.2.1]; simp, h.2.2⟩
theorem GrdTo.put {l : List Ed} {n : Nat} {tl bl L M : List Int} {k j : Nat} {b : Int} (h : GrdTo l n tl k bl j L) (hb : bl[j]? = some b) (hp : PutI L b M) : GrdTo l n tl k bl (j + 1) M := by
  refine ⟨hp.1, fun y => ?_, by have := hp.2.2; have := h.2.2; omega⟩
  rw [hp.2.1, h.2.1, List.take_add_one, hb, List.mem_append]
  simp only [Option.toList_some, List.mem_singleton]
  constructor
  · rintro (h | h | h)
    · exact .inr (.inr h)
    · exact .inl h
    · exact .inr (.inl h)
  · rintro (h | h | h)
    · exact .inr (.inl h)
    · exact .inr (.inr h)
    · exact .inl h
theorem GrdTo.next {l : List Ed} {n : Nat} {tl L : List Int} {k : Nat} {x : Int} (hx : tl[k]? = some x) (hn : n ≤ 8) (h : GrdTo l n tl k (nw (ballB l x.toNat) n) (nw (ballB l x.toNat) n).length L) : GrdTo l n tl (k + 1) [] 0 L := by
  refine ⟨h.1, fun y => ?_, by have := h.2.2; have := nw_len (ballB l x.toNat) n; omega⟩
  rw [h.2.1, List.take_length, List.take_add_one, hx]
  simp only [Option.toList_some, List.mem_append, List.mem_singleton, List.take_zero, List.not_mem_nil, or_false]
  constructor
  · rintro (⟨z, hz, hy⟩ | hy)
    · exact ⟨z, .inl hz, hy⟩
    · exact ⟨x, .inr rfl, hy⟩
  · rintro ⟨z, hz | hz, hy⟩
    · exact .inl ⟨z, hz, hy⟩
    · subst hz; exact .inr hy
theorem GrdTo.all {l : List Ed} {n : Nat} {tl L : List Int} (hg : P2.Good n l) (h : GrdTo l n tl tl.length [] 0 L) : L = grdL l n tl := by
  refine asc_ext h.1 (nw_asc _ _) fun y => ?_
  rw [h.2.1, List.take_length]
  simp only [List.take_zero, List.not_mem_nil, or_false]
  unfold grdL
  rw [mem_nw]
  constructor
  · rintro ⟨x, hx, hy⟩
    obtain ⟨j, hj, hb, rfl⟩ := mem_nw.1 hy
    refine ⟨j, hj, ?_, rfl⟩
    show (grdN l tl).testBit j = true
    rw [grd_bit, List.any_eq_true]
    refine ⟨x, hx, ?_⟩
    rw [cloB_bit hg]
    exact hb
  · rintro ⟨j, hj, hb, rfl⟩
    have hb2 : (grdN l tl).testBit j = true := hb
    rw [grd_bit, List.any_eq_true] at hb2
    obtain ⟨x, hx, hbx⟩ := hb2
    rw [cloB_bit hg] at hbx
    exact ⟨x, hx, mem_nw.2 ⟨j, hj, hbx, rfl⟩⟩
theorem grd_len (s : Int) (l : List Ed) (tl : List Int) : (inG (CopsOk s l tl) (grdL l s.toNat tl)).length ≤ 1048576 := inG_len fun h => by
  have := nw_len (bitB (grdN l tl)) s.toNat
  have := h.1.2.1
  unfold grdL; omega
end Go.Proofs.Ytjcnngnahijceaa.cops

/- Lists of cops: slices.IsSorted, isCops, l4Field, l4Cops. -/
namespace Go.Proofs.Ytjcnngnahijceaa.cops
open Go.RowKit P2 words edges ints good adjs fns rets sets covs balls
set_option linter.unusedVariables false

theorem isNaN_any (x : Int) (w : World) : Calls Try.prog 170 #[.int .i64 x] w fun e w' => e = .returned (.bool false) ∧ w = w' := by
  have h : (x != x) = false := by simp
  go_enter Try.func170, Try.ntmps170
  go_wp2_with fail
  go_ret
  exact ⟨by simp, rfl⟩

def FieldP (s : Int) (l : List Ed) (k : Int) : Prop := P2.Good s l ∧ 0 < s ∧ 1 ≤ k ∧ k ≤ 3
theorem l4Field_any (s k : Int) (v : Value) (l : List Ed) (w : World) (h : Edges w v l) (hl : l.length ≤ 1048576) (hs1 : -9223372036854775808 ≤ s) (hs2 : s ≤ 9223372036854775807) :
    Calls Try.prog 81 #[.agg #[.int .i64 s, v], .int .i64 k] w fun e w' => e = .returned (.bool (okG (FieldP s l k))) ∧ Below w.heap.size w w' := by
  obtain ⟨A, c, rfl, -⟩ := h.form
  have b0 : Below w.heap.size w (w.alloc (.cells #[.int .i64 s, .slice A l.length c] 28)) := (Below.refl _ _).alloc (Nat.le_refl _) _
  have g0 := Blk.new w 28 #[.int .i64 s, .slice A l.length c]
  have HG := Lib.hid (l2Good_any s _ l _ (h.below b0) hl hs1 hs2)
  clear h
  by_cases hgd : P2.Good s l
  · rw [goodB_yes hgd] at HG
    by_cases hs : 0 < s
    · have HV : Hid (okG (FieldP s l k) = inB k 1 3) := by
        show _ = _
        by_cases hk : 1 ≤ k ∧ k ≤ 3
        · rw [okG_yes (show FieldP s l k from ⟨hgd, hs, hk⟩)]; simp [inB, hk]
        · rw [okG_no (show ¬ FieldP s l k from fun hh => hk hh.2.2)]; symm; simp [inB]; omega
      have d0 : decide (0 < s) = true := decide_eq_true hs
      rw [HV.out]
      clear hgd HV
      go_enter Try.func81, Try.ntmps81
      go_wp2_with fail
      refine HG.out.mono ?_
      rintro e w1 ⟨rfl, b1⟩
      have e1 := btrans b0 b1
      have g1 := g0.below b1 g0.lt
      obtain ⟨p0, p1, -, -⟩ := g1.two
      clear HG b0 b1 g0 g1
      go_wp2_with fail
      refine (l1In_any k 1 3 w1).mono ?_
      rintro e w' ⟨rfl, rfl⟩
      go_wp2_with fail
      go_ret
      exact ⟨rfl, e1⟩
    · have d0 : decide (0 < s) = false := decide_eq_false hs
      rw [okG_no (show ¬ FieldP s l k from fun hh => hs hh.2.1)]
      clear hgd
      go_enter Try.func81, Try.ntmps81
      go_wp2_with fail
      refine HG.out.mono ?_
      rintro e w1 ⟨rfl, b1⟩
      have e1 := btrans b0 b1
      have g1 := g0.below b1 g0.lt
      obtain ⟨p0, p1, -, -⟩ := g1.two
      clear HG b0 b1 g0 g1
      go_wp2_with fail
      go_ret
      exact ⟨rfl, e1⟩
  · rw [goodB_no hgd] at HG
    rw [okG_no (show ¬ FieldP s l k from fun hh => hgd hh.1)]
    clear hgd
    go_enter Try.func81, Try.ntmps81
    go_wp2_with fail
    refine HG.out.mono ?_
    rintro e w1 ⟨rfl, b1⟩
    have e1 := btrans b0 b1
    clear HG b0 b1 g0
    go_wp2_with fail
    go_ret
    exact ⟨rfl, e1⟩
/-- nodes in order -/
def CopP (n : Nat) (tl : List Int) : Prop := (∀ x ∈ tl, 0 ≤ x ∧ x < (n : Int)) ∧ Up tl
def CopTo (n : Nat) (tl : List Int) (k : Nat) : Prop := (∀ j x, j < k → tl[j]? = some x → 0 ≤ x ∧ x < (n : Int)) ∧ ∀ j x y, j + 1 < k → tl[j]? = some x → tl[j + 1]? = some y → x ≤ y
theorem CopTo.all {n : Nat} {tl : List Int} (h : CopTo n tl tl.length) : CopP n tl :=
  ⟨fun x hx => by
    obtain ⟨j, hj⟩ := List.mem_iff_getElem?.1 hx
    exact h.1 j x (List.getElem?_eq_some_iff.1 hj).1 hj,
   UpFrom.up fun j x y _ hx hy => h.2 j x y (List.getElem?_eq_some_iff.1 hy).1 hx hy⟩
theorem CopTo.succ {n : Nat} {tl : List Int} {k : Nat} {x : Int} (h : CopTo n tl k) (hx : tl[k]? = some x) (h1 : 0 ≤ x ∧ x < (n : Int)) (h2 : ∀ m y, k = m + 1 → tl[m]? = some y → y ≤ x) : CopTo n tl (k + 1) :=
  ⟨fun j y hj hy => by
    by_cases e : j = k
    · subst e; rw [hx] at hy; cases hy; exact h1
    · exact h.1 j y (by omega) hy,
   fun j a b hj ha hb => by
    by_cases e : j + 1 = k
    · subst e; rw [hx] at hb; cases hb; exact h2 j a rfl ha
    · exact h.2 j a b (by omega) ha hb⟩
end Go.Proofs.Ytjcnngnahijceaa.cops

/- The contracts of the program's isFilled and of the model's l3Some. -/
namespace Go.Proofs.Ytjcnngnahijceaa.filled
open Go.RowKit P2 words edges ints good rets
set_option linter.unusedVariables false

def SomeP (s : Int) (l : List Ed) : Prop := P2.Good s l ∧ 0 < s
theorem isFilled_any (s : Int) (v : Value) (l : List Ed) (w : World) (h : Edges w v l) (hl : l.length ≤ 1048576) :
    Calls Try.prog 162 #[.agg #[.int .i64 s, v]] w fun e w' => e = .returned (.bool (okG (SomeP s l))) ∧ Below w.heap.size w w' := by
  obtain ⟨A, c, rfl, -⟩ := h.form
  have b0 : Below w.heap.size w (w.alloc (.cells #[.int .i64 s, .slice A l.length c] 28)) := (Below.refl _ _).alloc (Nat.le_refl _) _
  have g0 := Blk.new w 28 #[.int .i64 s, .slice A l.length c]
  have HG := Lib.hid (implIsGraph_any s _ l _ (h.below b0) hl)
  clear h
  by_cases hg : P2.Good s l
  · rw [goodB_yes hg] at HG
    have HV : Hid (okG (SomeP s l) = decide (0 < s)) := by
      show _ = _
      rw [Bool.eq_iff_iff, okG_iff, decide_eq_true_iff]
      exact ⟨fun h => h.2, fun h => ⟨hg, h⟩⟩
    clear hg
    go_enter Try.func162, Try.ntmps162
    go_wp2_with fail
    refine HG.out.mono ?_
    rintro e w1 ⟨rfl, b1⟩
    have g1 := g0.below b1 g0.lt
    have e1 := btrans b0 b1
    obtain ⟨p0, p1, -, -⟩ := g1.two
    clear HG g0 b0 b1
    go_wp2_with fail
    go_ret
    exact ⟨ret_bool HV.out.symm, e1⟩
  · rw [goodB_no hg] at HG
    have HV : Hid (okG (SomeP s l) = false) := okG_no (fun h => hg h.1)
    clear hg
    go_enter Try.func162, Try.ntmps162
    go_wp2_with fail
    refine HG.out.mono ?_
    rintro e w1 ⟨rfl, b1⟩
    go_wp2_with fail
    go_ret
    exact ⟨ret_bool HV.out.symm, btrans b0 b1⟩
end Go.Proofs.Ytjcnngnahijceaa.filled

/- The contracts of both CopLists. -/
namespace Go.Proofs.Ytjcnngnahijceaa.lists
open Go.RowKit P2 words edges ints good adjs fns sets rets apps gridr grid filled cops
set_option linter.unusedVariables false

def RowsOk (rows : List (List Int)) : Prop := gridl.tot rows ≤ 1048576 ∧ rows.length ≤ 1048576
theorem tot_rows {M : Nat} : ∀ (rows : List (List Int)), (∀ r ∈ rows, r.length ≤ M) → gridl.tot rows ≤ rows.length * M
  | [], _ => by simp [gridl.tot]
  | r :: rs, h => by
    have h1 := h r List.mem_cons_self
    have h2 := tot_rows rs fun q hq => h q (List.mem_cons_of_mem _ hq)
    have h3 : gridl.tot (r :: rs) = r.length + gridl.tot rs := by simp [gridl.tot]
    rw [h3, List.length_cons, Nat.succ_mul]; omega
theorem rows_ok {M : Nat} {rows : List (List Int)} (h : ∀ r ∈ rows, r.length ≤ M) (hM : M ≤ 1000) (hl : rows.length ≤ 1000) : RowsOk rows := by
  have h1 := tot_rows rows h
  have h2 := Nat.mul_le_mul hl hM
  exact ⟨by omega, by omega⟩
theorem rows_nil : RowsOk [] := ⟨by simp [gridl.tot], by simp⟩
theorem lists_small {n k : Nat} (hn : n ≤ 8) (hk : k ≤ 3) (f : Nat) : (listsN n k f).length ≤ 512 := by
  have h1 := lists_len hn k f
  have h2 := Nat.pow_le_pow_right (show 0 < 8 by decide) hk
  omega
theorem rowsN_ok {Ls : List (List Nat)} (h : ∀ L ∈ Ls, L.length ≤ 3) (hl : Ls.length ≤ 1000) : RowsOk (rowsN Ls) :=
  rows_ok (M := 3) (fun r hr => by obtain ⟨L, hL, rfl⟩ := List.mem_map.1 hr; rw [castL_len]; exact h L hL) (by omega) (by rw [rowsN_len]; exact hl)
noncomputable def copL (s k : Int) : List (List Int) := rowsN (listsN s.toNat k.toNat 0)
theorem copL_ok (s k : Int) (l : List Ed) : RowsOk (gdG (FieldP s l k) (copL s k)) := by
  by_cases h : FieldP s l k
  · rw [gdG_yes h]
    have h1 := h.1.2.1
    have h2 := h.2.2.2
    refine rowsN_ok (fun L hL => ?_) ?_
    · rw [(lists_mem _ _ L hL).1]; omega
    · have := lists_small (n := s.toNat) (k := k.toNat) (by omega) (by omega) 0; omega
  · rw [gdG_no h]; exact rows_nil
theorem field_some {s k : Int} {l : List Ed} : FieldP s l k ↔ SomeP s l ∧ 1 ≤ k ∧ k ≤ 3 := ⟨fun h => ⟨⟨h.1, h.2.1⟩, h.2.2⟩, fun h => ⟨h.1.1, h.1.2, h.2⟩⟩
theorem listsFrom_zero (n k : Nat) (hn : n ≤ 8) (hk : k ≤ 3) (w : World) : Calls Try.prog 163 #[.int .i64 0, .int .i64 (n : Int), .int .i64 (k : Int)] w (RetL w (listsN n k 0)) := listsFrom_any n hn k hk 0 (Nat.zero_le _) w
set_option maxHeartbeats 1000000 in
set_option maxRecDepth 100000 in
theorem implCopL_any (s k : Int) (v : Value) (l : List Ed) (w : World) (h : Edges w v l) (hl : l.length ≤ 1048576) :
    Calls Try.prog 129 #[.agg #[.int .i64 s, v], .int .i64 k] w (RetGr w (FieldP s l k) (copL s k)) := by
  obtain ⟨A, c, rfl, -⟩ := h.form
  have b0 : Below w.heap.size w (w.alloc (.cells #[.int .i64 s, .slice A l.length c] 28)) := (Below.refl _ _).alloc (Nat.le_refl _) _
  have g0 := Blk.new w 28 #[.int .i64 s, .slice A l.length c]
  have HG := Lib.hid (isFilled_any s _ l _ (h.below b0) hl)
  clear h
  by_cases hsm : SomeP s l
  · rw [okG_yes hsm] at HG
    by_cases h1 : k < 1
    · have HN : Hid (¬ FieldP s l k) := fun h => by have := h.2.2.1; omega
      have d1 : decide (k < 1) = true := decide_eq_true h1
      clear hsm h1
      go_enter Try.func129, Try.ntmps129
      go_wp2_with fail
      refine HG.out.mono ?_
      rintro e w1 ⟨rfl, b1⟩
      go_wp2_with fail
      go_ret2
      exact RetGr.nil HN.out (btrans b0 b1)
    · have d1 : decide (k < 1) = false := decide_eq_false h1
      by_cases h3 : 3 < k
      · have HN : Hid (¬ FieldP s l k) := fun h => by have := h.2.2.2; omega
        have d2 : decide (3 < k) = true := decide_eq_true h3
        clear hsm h1 h3
        go_enter Try.func129, Try.ntmps129
        go_wp2_with fail
        refine HG.out.mono ?_
        rintro e w1 ⟨rfl, b1⟩
        go_wp2_with fail
        go_ret2
        exact RetGr.nil HN.out (btrans b0 b1)
      · have d2 : decide (3 < k) = false := decide_eq_false h3
        have HY : Hid (FieldP s l k) := ⟨hsm.1, hsm.2, by omega, by omega⟩
        obtain ⟨n, rfl⟩ : ∃ n : Nat, s = (n : Int) := ⟨s.toNat, by have := hsm.2; omega⟩
        obtain ⟨m, rfl⟩ : ∃ m : Nat, k = (m : Int) := ⟨k.toNat, by omega⟩
        have HV : Hid (copL (n : Int) (m : Int) = rowsN (listsN n m 0)) := rfl
        have HL := Lib.hid (fun (W : World) => listsFrom_zero n m (by have := hsm.1.2.1; omega) (by omega) W)
        rw [HV.out]
        clear hsm h1 h3 HV
        go_enter Try.func129, Try.ntmps129
        go_wp2_with fail
        refine HG.out.mono ?_
        rintro e w1 ⟨rfl, b1⟩
        have e1 := btrans b0 b1
        have g1 := g0.below b1 g0.lt
        clear HG b0 b1 g0
        obtain ⟨p0, p1, -, -⟩ := g1.two
        go_wp2_with fail
        refine (HL.out w1).mono ?_
        rintro e w2 ⟨A2, c2, us, rfl, o2, b2⟩
        go_wp2_with fail
        go_ret2
        exact RetGr.yes HY.out (o2.base e1.size) (btrans e1 b2)
  · rw [okG_no hsm] at HG
    have HN : Hid (¬ FieldP s l k) := fun h => hsm ⟨h.1, h.2.1⟩
    clear hsm
    go_enter Try.func129, Try.ntmps129
    go_wp2_with fail
    refine HG.out.mono ?_
    rintro e w1 ⟨rfl, b1⟩
    go_wp2_with fail
    go_ret2
    exact RetGr.nil HN.out (btrans b0 b1)
end Go.Proofs.Ytjcnngnahijceaa.lists

/- The contract of the program's chaseIn: the game of one cop. -/
namespace Go.Proofs.Ytjcnngnahijceaa.times
open Go.RowKit P2 words edges ints good adjs fns sets rets covs bitsI bags gridr mids grid reps apps
set_option linter.unusedVariables false

theorem OwnG.kept_c {w w' : World} {B O : Nat} {t : TypeId} {v : Value} {us : List Value} {rows : List (List Int)} {cs : Array Value} (h : OwnG w B v us rows) (hO : Blk w O t cs) (h1 : 32 ≠ t) (h2 : 3 ≠ t) (hg : w.grownBy w' (some O)) : OwnG w' B v us rows :=
  ⟨h.1.kept hg (.inr (own_ne h.1 hO h1)), fun i u r hu hr => (h.2.1 i u r hu hr).kept hg (.inr (own_ne (h.2.1 i u r hu hr) hO h2)), h.2.2⟩
theorem gset1 (w : World) (g j : Nat) (u : Value) : w.grownBy (w.setCell ⟨g, j, none⟩ u) (some g) := gset (World.grownBy.refl w (some g)) j u
/-- the first k places -/
def pwK (k : Nat) : List Nat := (List.range k).map (2 ^ ·)
theorem pwK_len (k : Nat) : (pwK k).length = k := by simp [pwK]
theorem pwK_succ (k : Nat) : pwK (k + 1) = pwK k ++ [2 ^ k] := by simp [pwK, List.range_succ]
theorem cellsU_app (l m : List Nat) : cellsU (l ++ m) = cellsU l ++ cellsU m := by simp [cellsU]
theorem pwK_all (l : List Ed) (n : Nat) : pwK n = codesL (one l n).P (one l n).n (one l n).tk := by
  unfold pwK codesL
  refine List.map_congr_left fun p hp => ?_
  have hpn := List.mem_range.1 hp
  rw [← num_one hpn]
  refine num_ext fun z _ => ?_
  show decide (z = p) = (p == z)
  rw [Bool.eq_iff_iff, decide_eq_true_iff, beq_iff_eq]
  exact eq_comm
def mvK (l : List Ed) (n k : Nat) : List (List Int) := (List.range k).map (ballL l n)
theorem mvK_len (l : List Ed) (n k : Nat) : (mvK l n k).length = k := by simp [mvK]
theorem mvK_succ (l : List Ed) (n k : Nat) : mvK l n (k + 1) = mvK l n k ++ [ballL l n k] := by simp [mvK, List.range_succ]
theorem mvK_at {l : List Ed} {n k p : Nat} (h : p < k) : (mvK l n k)[p]? = some (ballL l n p) := by simp [mvK, h]
theorem clo_nodes {n : Nat} {l : List Ed} (hg : P2.Good (n : Int) l) {x : Nat} (hx : x < n) (hn : n ≤ 8) : nw (bitB (cloB l x)) 8 = ballL l n x := by
  unfold ballL
  rw [nw_more hn (fun k h1 _ => by
    unfold bitB
    rw [cloB_bit hg]
    cases ha : adj l (x : Int) (k : Int) with
    | false => simp; omega
    | true => have := (adj_node hg ha).2; omega)]
  exact nw_congr fun k _ => by unfold bitB; rw [cloB_bit hg]; rfl
theorem moves_one (l : List Ed) (n : Nat) : MovesOf (one l n) (mvK l n n) := by
  refine ⟨mvK_len l n n, fun p mvs h => ?_⟩
  have hp : p < n := by have := (List.getElem?_eq_some_iff.1 h).1; rwa [mvK_len] at this
  rw [mvK_at hp] at h
  cases h
  unfold ballL
  refine ⟨fun q hq => ?_, fun q hq => ?_⟩
  · obtain ⟨z, hz, _, rfl⟩ := mem_nw.1 hq
    show 0 ≤ (z : Int) ∧ (z : Int) < (n : Int)
    omega
  · rw [mem_nw]
    show ballB l p q = true ↔ _
    constructor
    · exact fun hb => ⟨q, hq, hb, rfl⟩
    · rintro ⟨z, _, hz, e⟩
      obtain rfl : q = z := by omega
      exact hz
theorem mvK_short {l : List Ed} {n : Nat} (hn : n ≤ 8) : ∀ mvs ∈ mvK l n n, mvs.length ≤ 200 := fun mvs h => by
  obtain ⟨p, _, rfl⟩ := List.mem_map.1 h
  have : (ballL l n p).length ≤ n := nw_len _ _
  omega

/-- a slice of words lies in another block than a game -/
theorem nums_ne {w : World} {A : Option Addr} {n c O : Nat} {xs : List Nat} {a1 a2 a3 a4 : Option Addr} {n1 n2 n3 n4 c1 c2 c3 c4 : Nat} {t : TypeId} (h : Nums w (.slice A n c) xs) (hb : Blk w O t #[.slice a1 n1 c1, .slice a2 n2 c2, .slice a3 n3 c3, .slice a4 n4 c4]) :
    0 < xs.length → ∀ g o, A = some ⟨g, o, none⟩ → g ≠ O := fun h0 g o e e2 => by
  subst e
  subst e2
  obtain ⟨_, _, hf, hx⟩ := h.form
  obtain ⟨x, hx0⟩ : ∃ x, xs[0]? = some x := ⟨_, List.getElem?_eq_getElem h0⟩
  cases hf
  obtain ⟨g', o', e3, hc⟩ := hx 0 x hx0
  cases e3
  rw [hb.cell (o + 0)] at hc
  match o, hc with
  | 0, hc => simp at hc
  | 1, hc => simp at hc
  | 2, hc => simp at hc
  | 3, hc => simp at hc
  | o + 4, hc => simp at hc
theorem nums_grown {w w' : World} {A : Option Addr} {n c O : Nat} {xs : List Nat} (h : Nums w (.slice A n c) xs) (hg : w.grownBy w' (some O)) (hne : 0 < xs.length → ∀ g o, A = some ⟨g, o, none⟩ → g ≠ O) : Nums w' (.slice A n c) xs := by
  rcases Nat.eq_zero_or_pos xs.length with h0 | h0
  · obtain ⟨A', c', e, _⟩ := h
    exact ⟨A', c', e, fun hh => by omega⟩
  · refine h.grown hg fun g o k c' e hh => ?_
    cases e
    exact hne h0 g o rfl (by simpa using hh)
end Go.Proofs.Ytjcnngnahijceaa.times

/- The game of some cops: plain mathematics, and what the walk over the program's huntIn wants. -/
namespace Go.Proofs.Ytjcnngnahijceaa.lists
open Go.RowKit P2 words edges ints good adjs fns sets rets apps gridr grid trip covs bitsI times mids
set_option linter.unusedVariables false

def cfg (n k p : Nat) : List Nat := (listsN n k 0).getD p []
theorem cfg_at {n k p : Nat} (h : p < (listsN n k 0).length) : (listsN n k 0)[p]? = some (cfg n k p) := by
  unfold cfg; rw [List.getD_eq_getElem?_getD, List.getElem?_eq_getElem h]; rfl
theorem cfg_mem {n k p : Nat} (h : p < (listsN n k 0).length) : cfg n k p ∈ listsN n k 0 := List.mem_of_getElem? (cfg_at h)
theorem cfg_len {n k p : Nat} (h : p < (listsN n k 0).length) : (cfg n k p).length = k := (lists_mem k 0 _ (cfg_mem h)).1
theorem cfg_lt {n k p : Nat} (h : p < (listsN n k 0).length) : ∀ x ∈ cfg n k p, x < n := fun x hx => ((lists_mem k 0 _ (cfg_mem h)).2 x hx).2
/-- the game of k cops -/
def gameN (l : List Ed) (n k : Nat) : Game := ⟨(listsN n k 0).length, n, ballB l, fun p r => decide (r ∈ cfg n k p), fun p q => canN (ballB l) (cfg n k p) (cfg n k q) 0⟩
def mvN (l : List Ed) (n k p : Nat) : List Int := nw ((gameN l n k).mv p) (gameN l n k).P
def mvG (l : List Ed) (n k : Nat) : List (List Int) := (List.range (gameN l n k).P).map (mvN l n k)
theorem mvG_len (l : List Ed) (n k : Nat) : (mvG l n k).length = (gameN l n k).P := by simp [mvG]
theorem mvG_at {l : List Ed} {n k p : Nat} (h : p < (gameN l n k).P) : (mvG l n k)[p]? = some (mvN l n k p) := by simp [mvG, h]
theorem mvN_len (l : List Ed) (n k p : Nat) : (mvN l n k p).length ≤ (gameN l n k).P := nw_len _ _
theorem gameN_moves (l : List Ed) (n k : Nat) : MovesOf (gameN l n k) (mvG l n k) := by
  refine ⟨mvG_len l n k, fun p mvs h => ?_⟩
  have hp : p < (gameN l n k).P := by
    have := (List.getElem?_eq_some_iff.1 h).1
    rw [mvG_len] at this; exact this
  rw [mvG_at hp] at h
  have e : mvN l n k p = mvs := by injection h
  subst e
  refine ⟨fun q hq => ?_, fun q hq => ?_⟩
  · obtain ⟨j, hj, _, rfl⟩ := mem_nw.1 hq
    exact ⟨by omega, by omega⟩
  · constructor
    · exact fun h => mem_nw.2 ⟨q, hq, h, rfl⟩
    · intro h
      obtain ⟨j, hj, h2, e⟩ := mem_nw.1 h
      have : q = j := by omega
      subst this; exact h2
theorem game_small {n k : Nat} (hn : n ≤ 8) (hk : k ≤ 3) : (listsN n k 0).length ≤ 200 := by
  have h2 : ∀ i : Fin 9, ∀ j : Fin 4, (listsN i.val j.val 0).length ≤ 200 := by decide +kernel
  exact h2 ⟨n, by omega⟩ ⟨k, by omega⟩
theorem mvN_short {l : List Ed} {n k : Nat} (hn : n ≤ 8) (hk : k ≤ 3) : ∀ mvs ∈ mvG l n k, mvs.length ≤ 200 := fun mvs h => by
  obtain ⟨p, _, rfl⟩ := List.mem_map.1 h
  exact Nat.le_trans (mvN_len l n k p) (game_small hn hk)
theorem game_some {l : List Ed} {n k : Nat} (hk : 1 ≤ k) : 0 < (gameN l n k).P → 0 < (gameN l n k).n := fun h => by
  have h1 := cfg_len (n := n) (k := k) h
  have h2 := cfg_lt (n := n) (k := k) h
  cases hc : cfg n k 0 with
  | nil => rw [hc] at h1; simp at h1; omega
  | cons x L => exact Nat.lt_of_le_of_lt (Nat.zero_le x) (h2 x (by rw [hc]; exact List.mem_cons_self))
/-- the sets of the cops of the first p places -/
def tkK (l : List Ed) (n k p : Nat) : List Nat := (List.range p).map fun i => numOf ((gameN l n k).tk i) n
theorem tkK_len (l : List Ed) (n k p : Nat) : (tkK l n k p).length = p := by simp [tkK]
theorem tkK_succ (l : List Ed) (n k p : Nat) : tkK l n k (p + 1) = tkK l n k p ++ [numOf ((gameN l n k).tk p) n] := by simp [tkK, List.range_succ]
theorem tkK_all (l : List Ed) (n k : Nat) : tkK l n k (gameN l n k).P = codesL (gameN l n k).P (gameN l n k).n (gameN l n k).tk := rfl
theorem code_cfg {l : List Ed} {n k p : Nat} (h : p < (listsN n k 0).length) : codeL (castL (cfg n k p)) = numOf ((gameN l n k).tk p) n := by
  apply Nat.eq_of_testBit_eq
  intro z
  rw [code_bit (fun x hx => by obtain ⟨y, _, rfl⟩ := List.mem_map.1 hx; omega), numOf_bit]
  show decide ((z : Int) ∈ castL (cfg n k p)) = (decide (z < n) && decide (z ∈ cfg n k p))
  have e : (z : Int) ∈ castL (cfg n k p) ↔ z ∈ cfg n k p := by
    constructor
    · intro h
      obtain ⟨y, hy, e⟩ := List.mem_map.1 h
      have : y = z := by omega
      subst this; exact hy
    · exact fun h => List.mem_map.2 ⟨z, h, rfl⟩
  rw [show decide ((z : Int) ∈ castL (cfg n k p)) = decide (z ∈ cfg n k p) from by rw [decide_eq_decide]; exact e]
  by_cases hz : z ∈ cfg n k p
  · rw [decide_eq_true hz, decide_eq_true (cfg_lt h z hz)]; rfl
  · rw [decide_eq_false hz, Bool.and_false]
/-- the moves of the first p places, and q of the next one -/
def mvT (l : List Ed) (n k p : Nat) (q : List Int) : List (List Int) := (List.range (gameN l n k).P).map fun i => if i < p then mvN l n k i else if i = p then q else []
theorem mvT_len (l : List Ed) (n k p : Nat) (q : List Int) : (mvT l n k p q).length = (gameN l n k).P := by simp [mvT]
theorem mvT_zero (l : List Ed) (n k : Nat) : List.replicate (gameN l n k).P [] = mvT l n k 0 [] := by
  unfold mvT
  apply List.ext_getElem?
  intro i
  by_cases hi : i < (gameN l n k).P
  · simp [hi]
  · rw [List.getElem?_eq_none (by simp; omega), List.getElem?_eq_none (by simp; omega)]
theorem mvT_at {l : List Ed} {n k p : Nat} {q : List Int} (h : p < (gameN l n k).P) : (mvT l n k p q)[p]? = some q := by simp [mvT, h]
theorem mvT_set {l : List Ed} {n k p : Nat} {q q' : List Int} (h : p < (gameN l n k).P) : (mvT l n k p q).set p q' = mvT l n k p q' := by
  apply List.ext_getElem?
  intro i
  rw [List.getElem?_set, mvT_len]
  by_cases e : p = i
  · subst e; rw [if_pos rfl, if_pos h, mvT_at h]
  · rw [if_neg e]
    by_cases hi : i < (gameN l n k).P
    · have e2 : ¬ i = p := fun h => e h.symm
      simp [mvT, hi, e2]
    · rw [List.getElem?_eq_none (by rw [mvT_len]; omega), List.getElem?_eq_none (by rw [mvT_len]; omega)]
theorem mvT_next (l : List Ed) (n k p : Nat) : mvT l n k p (mvN l n k p) = mvT l n k (p + 1) [] := by
  unfold mvT
  refine List.map_congr_left fun i _ => ?_
  by_cases h : i < p
  · rw [if_pos h, if_pos (by omega)]
  · rw [if_neg h]
    by_cases e : i = p
    · subst e; rw [if_pos rfl, if_pos (by omega)]
    · rw [if_neg e, if_neg (by omega)]; split <;> rfl
theorem mvT_all (l : List Ed) (n k : Nat) : mvT l n k (gameN l n k).P [] = mvG l n k := by
  unfold mvT mvG
  exact List.map_congr_left fun i hi => if_pos (List.mem_range.1 hi)
section
variable {w w' : World} {B : Nat} {us : List Value} {rows : List (List Int)}
/-- a row that has grown, stored into its place -/
theorem OwnG.grow {g c k gb n9 cap : Nat} {u : Value} {r r2 : List Int} (h : OwnG w B (.slice (some ⟨g, 0, none⟩) rows.length c) us rows) (hu : us[k]? = some u) (hr : rows[k]? = some r)
    (hn : w'.ownsRow B 3 1 (.slice (some ⟨gb, 0, none⟩) n9 cap) r2.length (cellsI r2)) (hg : w.grownBy w' u.ownBlock) (hl : u.ownBlock = some gb ∨ w.heap.size ≤ gb) :
    OwnG (w'.setCell ⟨g, k, none⟩ (.slice (some ⟨gb, 0, none⟩) n9 cap)) B (.slice (some ⟨g, 0, none⟩) rows.length c) (us.set k (.slice (some ⟨gb, 0, none⟩) n9 cap)) (rows.set k r2) := by
  have hlen := h.len
  have hk := (List.getElem?_eq_some_iff.1 hr).1
  have hu0 := h.2.1 k u r hu hr
  have hG : w'.ownsRow B 32 1 (.slice (some ⟨g, 0, none⟩) rows.length c) rows.length us := own_kept h.1 hu0 (fun e => tneI e.symm) hg
  have hgr := gset1 w' g k (.slice (some ⟨gb, 0, none⟩) n9 cap)
  have keep : ∀ {C : Nat} {x : Value} {m : Nat} {xs : List Value}, w'.ownsRow C 3 1 x m xs → (w'.setCell ⟨g, k, none⟩ (.slice (some ⟨gb, 0, none⟩) n9 cap)).ownsRow C 3 1 x m xs := fun {C x m xs} ho => by
    refine ho.kept hgr ?_
    cases hx : x.ownBlock with
    | none => exact .inl rfl
    | some b => exact .inr fun e => own_apart ho hG tneI b hx (by simp [Value.ownBlock]; cases e; rfl)
  have apart : ∀ (i : Nat) x, i ≠ k → us[i]? = some x → x.ownBlock = none ∨ x.ownBlock ≠ u.ownBlock := fun i x e hx => by
    cases hv : x.ownBlock with
    | none => exact .inl rfl
    | some b =>
      refine .inr fun e2 => ?_
      rcases Nat.lt_or_gt_of_ne e with hlt | hlt
      · exact h.2.2 i k x u b hlt hx hu hv e2.symm
      · exact h.2.2 k i u x b hlt hu hx e2.symm hv
  have far : ∀ (i : Nat) x b, i ≠ k → us[i]? = some x → x.ownBlock = some b → b ≠ gb := fun i x b e hx hb e2 => by
    subst e2
    rcases hl with hl | hl
    · rcases apart i x e hx with h1 | h1
      · rw [hb] at h1; cases h1
      · exact h1 (hb.trans hl.symm)
    · obtain ⟨q, hq⟩ : ∃ q, rows[i]? = some q := ⟨_, List.getElem?_eq_getElem (by have := (List.getElem?_eq_some_iff.1 hx).1; omega)⟩
      have := ((h.2.1 i x q hx hq).lt b hb).2
      omega
  refine ⟨?_, ?_, ?_⟩
  · rw [List.length_set]
    exact (hG.stored k _).1
  · intro i x q hx hq
    by_cases e : i = k
    · subst e
      rw [List.getElem?_set_self (by omega)] at hx
      rw [List.getElem?_set_self hk] at hq
      cases hx; cases hq
      exact keep hn
    · rw [List.getElem?_set_ne (fun hh => e hh.symm)] at hx hq
      exact keep ((h.2.1 i x q hx hq).kept hg (apart i x e hx))
  · intro i j x x' b hij hx hx' hb
    by_cases e : i = k
    · subst e
      rw [List.getElem?_set_self (by omega)] at hx
      cases hx
      rw [List.getElem?_set_ne (by omega)] at hx'
      intro hb'
      have : b = gb := by simp [Value.ownBlock] at hb; exact hb.symm
      exact far j x' b (by omega) hx' hb' this
    · rw [List.getElem?_set_ne (fun hh => e hh.symm)] at hx
      by_cases e2 : j = k
      · subst e2
        rw [List.getElem?_set_self (by omega)] at hx'
        cases hx'
        intro hb'
        have : b = gb := by simp [Value.ownBlock] at hb'; exact hb'.symm
        exact far i x b e hx hb this
      · rw [List.getElem?_set_ne (fun hh => e2 hh.symm)] at hx'
        exact h.2.2 i j x x' b hij hx hx' hb
end
theorem blk5 {w : World} {g : Nat} {t : TypeId} {a b c d e : Value} (h : Blk w g t #[a, b, c, d, e]) :
    w.cell? ⟨g, 0, none⟩ = some a ∧ w.cell? ⟨g, 1, none⟩ = some b ∧ w.cell? ⟨g, 2, none⟩ = some c ∧ w.cell? ⟨g, 3, none⟩ = some d ∧ w.cell? ⟨g, 4, none⟩ = some e := ⟨h.cell 0, h.cell 1, h.cell 2, h.cell 3, h.cell 4⟩
end Go.Proofs.Ytjcnngnahijceaa.lists
