/- Lists of cops, and the nodes that they guard. It imports nothing of the program. -/
import Derived.Test.YtphlpipbhaiijaaCov
import Derived.Test.YtphlpipbhaiijaaBall
namespace Go.Proofs.Ytphlpipbhaiijaa.cops
open Go.RowKit P2 words edges ints good adjs fns sets rets covs balls
set_option linter.unusedVariables false

/-- in ascending order, some may be the same -/
def Up (l : List Int) : Prop := l.Pairwise (· ≤ ·)
def UpFrom (l : List Int) (k : Nat) : Prop := ∀ j x y, k ≤ j → l[j]? = some x → l[j + 1]? = some y → x ≤ y
theorem UpFrom.start (l : List Int) (k : Nat) (h : l.length ≤ k + 1) : UpFrom l k := fun j x y hj _ hy => by
  have := (List.getElem?_eq_some_iff.1 hy).1; omega
theorem UpFrom.pred {l : List Int} {k : Nat} (h : UpFrom l (k + 1)) (hk : ∀ x y, l[k]? = some x → l[k + 1]? = some y → x ≤ y) : UpFrom l k := fun j x y hj hx hy => by
  by_cases e : j = k
  · subst e; exact hk x y hx hy
  · exact h j x y (by omega) hx hy
theorem UpFrom.pair {l : List Int} (h : UpFrom l 0) : ∀ (i j : Nat) (a b : Int), i < j → l[i]? = some a → l[j]? = some b → a ≤ b := by
  intro i j
  induction j with
  | zero => intro a b hij; omega
  | succ j ih =>
    intro a b hij ha hb
    obtain ⟨c, hc⟩ : ∃ c, l[j]? = some c := ⟨_, List.getElem?_eq_getElem (by have := (List.getElem?_eq_some_iff.1 hb).1; omega)⟩
    have h1 := h j c b (by omega) hc hb
    by_cases e : i = j
    · subst e; rw [hc] at ha; cases ha; exact h1
    · have := ih a c (by omega) ha hc; omega
theorem UpFrom.up {l : List Int} (h : UpFrom l 0) : Up l := by
  unfold Up
  rw [List.pairwise_iff_getElem]
  intro i j hi hj hij
  exact h.pair i j _ _ hij (List.getElem?_eq_getElem hi) (List.getElem?_eq_getElem hj)
theorem Up.at_ {l : List Int} (h : Up l) {i j : Nat} {a b : Int} (hij : i < j) (ha : l[i]? = some a) (hb : l[j]? = some b) : a ≤ b := by
  have h1 := (List.getElem?_eq_some_iff.1 ha)
  have h2 := (List.getElem?_eq_some_iff.1 hb)
  obtain ⟨h1, rfl⟩ := h1
  obtain ⟨h2, rfl⟩ := h2
  exact List.pairwise_iff_getElem.1 h i j h1 h2 hij
theorem not_up {l : List Int} {k : Nat} {x y : Int} (hx : l[k]? = some x) (hy : l[k + 1]? = some y) (h : y < x) : ¬ Up l := fun ha => by
  have := ha.at_ (Nat.lt_succ_self k) hx hy; omega

/-- cops at nodes -/
def CopsOk (s : Int) (l : List Ed) (tl : List Int) : Prop := P2.Good s l ∧ (1 ≤ tl.length ∧ tl.length ≤ 3) ∧ (∀ x ∈ tl, 0 ≤ x ∧ x < s) ∧ Up tl

def grdN (l : List Ed) (tl : List Int) : Nat := tl.foldl (fun a x => a ||| cloB l x.toNat) 0
theorem grdN_succ {l : List Ed} {tl : List Int} {k : Nat} {x : Int} (h : tl[k]? = some x) : grdN l (tl.take (k + 1)) = grdN l (tl.take k) ||| cloB l x.toNat := by
  unfold grdN; rw [List.take_add_one, h, List.foldl_append]; rfl
theorem grd_fold (l : List Ed) (z : Nat) : ∀ (tl : List Int) (a : Nat), (tl.foldl (fun a x => a ||| cloB l x.toNat) a).testBit z = (a.testBit z || tl.any fun x => (cloB l x.toNat).testBit z)
  | [], a => by simp
  | x :: tl, a => by rw [List.foldl_cons, grd_fold l z tl, Nat.testBit_or, List.any_cons, Bool.or_assoc]
theorem grd_bit (l : List Ed) (tl : List Int) (z : Nat) : (grdN l tl).testBit z = tl.any fun x => (cloB l x.toNat).testBit z := by
  unfold grdN; rw [grd_fold]; simp
theorem grd_lt {n : Nat} {l : List Ed} {tl : List Int} (hg : P2.Good n l) (hn : n ≤ 8) (h : ∀ x ∈ tl, 0 ≤ x ∧ x < (n : Int)) (k : Nat) : grdN l (tl.take k) < 256 := by
  refine Nat.lt_pow_two_of_testBit (n := 8) _ fun i hi => ?_
  rw [grd_bit]
  cases hb : (tl.take k).any fun x => (cloB l x.toNat).testBit i with
  | false => rfl
  | true =>
    obtain ⟨x, hx, hbx⟩ := List.any_eq_true.1 hb
    have hm := h x (List.mem_of_mem_take hx)
    have := cloB_lt' hg x.toNat (by omega)
    rw [Nat.testBit_lt_two_pow (Nat.lt_of_lt_of_le this (by rw [show 256 = 2 ^ 8 from rfl]; exact Nat.pow_le_pow_right (by decide) hi))] at hbx
    cases hbx
/-- the guarded nodes -/
def grdL (l : List Ed) (n : Nat) (tl : List Int) : List Int := nw (bitB (grdN l tl)) n
theorem grd_nodes {n : Nat} {l : List Ed} {tl : List Int} (hg : P2.Good n l) (hn : n ≤ 8) (h : ∀ x ∈ tl, 0 ≤ x ∧ x < (n : Int)) : nw (bitB (grdN l tl)) 8 = grdL l n tl := nw_more hn fun k h1 h2 => by
  show (grdN l tl).testBit k = false
  rw [grd_bit]
  cases hb : tl.any fun x => (cloB l x.toNat).testBit k with
  | false => rfl
  | true =>
    obtain ⟨x, hx, hbx⟩ := List.any_eq_true.1 hb
    rw [cloB_bit hg, Bool.or_eq_true] at hbx
    have hm := h x hx
    rcases hbx with hbx | hbx
    · have : x.toNat = k := by simpa using hbx
      omega
    · have := (adj_node hg hbx).2; omega
/-- the set in the making holds the balls of the first cops, and the first nodes of the next one's -/
def GrdTo (l : List Ed) (n : Nat) (tl : List Int) (k : Nat) (bl : List Int) (j : Nat) (L : List Int) : Prop :=
  Asc L ∧ (∀ y, y ∈ L ↔ (∃ x ∈ tl.take k, y ∈ nw (ballB l x.toNat) n) ∨ y ∈ bl.take j) ∧ L.length ≤ 8 * k + j
theorem GrdTo.zero (l : List Ed) (n : Nat) (tl : List Int) : GrdTo l n tl 0 [] 0 [] := ⟨by unfold Asc; simp, fun y => by simp, by simp⟩
theorem GrdTo.first {l : List Ed} {n : Nat} {tl L : List Int} {k : Nat} (h : GrdTo l n tl k [] 0 L) (bl : List Int) : GrdTo l n tl k bl 0 L := by
  refine ⟨h.1, fun y => by rw [h.2.1]; simp, h.2.2⟩
theorem GrdTo.put {l : List Ed} {n : Nat} {tl bl L M : List Int} {k j : Nat} {b : Int} (h : GrdTo l n tl k bl j L) (hb : bl[j]? = some b) (hp : PutI L b M) : GrdTo l n tl k bl (j + 1) M := by
  refine ⟨hp.1, fun y => ?_, by have := hp.2.2; have := h.2.2; omega⟩
  rw [hp.2.1, h.2.1, List.take_add_one, hb, List.mem_append]
  simp only [Option.toList_some, List.mem_singleton]
  constructor
  · rintro (h | h | h)
    · exact .inr (.inr h)
    · exact .inl h
    · exact .inr (.inl h)
  · rintro (h | h | h)
    · exact .inr (.inl h)
    · exact .inr (.inr h)
    · exact .inl h
theorem GrdTo.next {l : List Ed} {n : Nat} {tl L : List Int} {k : Nat} {x : Int} (hx : tl[k]? = some x) (hn : n ≤ 8) (h : GrdTo l n tl k (nw (ballB l x.toNat) n) (nw (ballB l x.toNat) n).length L) : GrdTo l n tl (k + 1) [] 0 L := by
  refine ⟨h.1, fun y => ?_, by have := h.2.2; have := nw_len (ballB l x.toNat) n; omega⟩
  rw [h.2.1, List.take_length, List.take_add_one, hx]
  simp only [Option.toList_some, List.mem_append, List.mem_singleton, List.take_zero, List.not_mem_nil, or_false]
  constructor
  · rintro (⟨z, hz, hy⟩ | hy)
    · exact ⟨z, .inl hz, hy⟩
    · exact ⟨x, .inr rfl, hy⟩
  · rintro ⟨z, hz | hz, hy⟩
    · exact .inl ⟨z, hz, hy⟩
    · subst hz; exact .inr hy
theorem GrdTo.all {l : List Ed} {n : Nat} {tl L : List Int} (hg : P2.Good n l) (h : GrdTo l n tl tl.length [] 0 L) : L = grdL l n tl := by
  refine asc_ext h.1 (nw_asc _ _) fun y => ?_
  rw [h.2.1, List.take_length]
  simp only [List.take_zero, List.not_mem_nil, or_false]
  unfold grdL
  rw [mem_nw]
  constructor
  · rintro ⟨x, hx, hy⟩
    obtain ⟨j, hj, hb, rfl⟩ := mem_nw.1 hy
    refine ⟨j, hj, ?_, rfl⟩
    show (grdN l tl).testBit j = true
    rw [grd_bit, List.any_eq_true]
    refine ⟨x, hx, ?_⟩
    rw [cloB_bit hg]
    exact hb
  · rintro ⟨j, hj, hb, rfl⟩
    have hb2 : (grdN l tl).testBit j = true := hb
    rw [grd_bit, List.any_eq_true] at hb2
    obtain ⟨x, hx, hbx⟩ := hb2
    rw [cloB_bit hg] at hbx
    exact ⟨x, hx, mem_nw.2 ⟨j, hj, hbx, rfl⟩⟩
theorem grd_len (s : Int) (l : List Ed) (tl : List Int) : (inG (CopsOk s l tl) (grdL l s.toNat tl)).length ≤ 1048576 := inG_len fun h => by
  have := nw_len (bitB (grdN l tl)) s.toNat
  have := h.1.2.1
  unfold grdL; omega
end Go.Proofs.Ytphlpipbhaiijaa.cops
