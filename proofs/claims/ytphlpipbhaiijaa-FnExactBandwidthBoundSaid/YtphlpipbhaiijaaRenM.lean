/- Renaming the nodes of a Graph, on lists. It imports nothing of the program. -/
import Derived.Test.YtphlpipbhaiijaaEach
import Derived.Test.YtphlpipbhaiijaaFunc
import Derived.Test.YtphlpipbhaiijaaPut
namespace Go.Proofs.Ytphlpipbhaiijaa.rens
open Go.RowKit P2 words edges ints good adjs fns sets rets each func put
set_option linter.unusedVariables false

/-- the place of a number in a list, and the number at a place -/
def idxI (tl : List Int) (x : Int) : Int := idxF (fun y => y == x) tl
def atI (tl : List Int) (x : Int) : Int := tl.getD x.toNat 0
def renJ (l : List Ed) (tl : List Int) (x y : Nat) : Bool := adj l (idxI tl x) (idxI tl y)
def renL (n : Nat) (l : List Ed) (tl : List Int) : List Ed := gw n (renJ l tl)
def renE (tl : List Int) (e : Ed) : Ed := (min (atI tl e.1) (atI tl e.2), max (atI tl e.1) (atI tl e.2))

theorem each_nodup {n : Nat} {tl : List Int} (h : EachS n tl) : tl.Nodup := by
  have h1 : (dst tl).length = n := (each_dst h.1 h.range).1 h
  have hs : ∀ (xs L : List Int), (xs.foldl addD L).length = L.length + xs.length → L.Nodup → (L ++ xs).Nodup := by
    intro xs
    induction xs with
    | nil => intro L _ h; simpa using h
    | cons x xs ih =>
      intro L hl hn
      rw [List.foldl_cons] at hl
      have hle : ∀ (xs L : List Int), (xs.foldl addD L).length ≤ L.length + xs.length := by
        intro xs
        induction xs with
        | nil => intro L; simp
        | cons x xs ih =>
          intro L
          rw [List.foldl_cons]
          have h2 := ih (addD L x)
          have h3 : (addD L x).length ≤ L.length + 1 := by unfold addD; split <;> simp
          simp only [List.length_cons]; omega
      have h2 := hle xs (addD L x)
      by_cases hx : x ∈ L
      · rw [show addD L x = L from by unfold addD; rw [if_pos hx]] at h2 hl
        simp only [List.length_cons] at hl; omega
      · have he : addD L x = L ++ [x] := by unfold addD; rw [if_neg hx]
        have := ih (addD L x) (by rw [hl, he]; simp only [List.length_append, List.length_cons, List.length_nil]; omega) (addD_nodup hn)
        rw [he] at this
        simpa using this
  have := hs tl [] (by show (dst tl).length = _; rw [h1]; simp [h.1]) (by simp)
  simpa using this

theorem at_mem {n : Nat} {tl : List Int} (h : EachS n tl) {x : Int} (h0 : 0 ≤ x) (hx : x < n) : tl[x.toNat]? = some (atI tl x) ∧ 0 ≤ atI tl x ∧ atI tl x < n := by
  have hl : x.toNat < tl.length := by have := h.1; omega
  have h1 : tl[x.toNat]? = some (atI tl x) := by simp [atI, List.getD_eq_getElem?_getD, List.getElem?_eq_getElem hl]
  exact ⟨h1, h.range _ (List.mem_of_getElem? h1)⟩
theorem at_inj {n : Nat} {tl : List Int} (h : EachS n tl) {x y : Int} (h0 : 0 ≤ x) (hx : x < n) (h1 : 0 ≤ y) (hy : y < n) (he : atI tl x = atI tl y) : x = y := by
  have h2 := (at_mem h h0 hx).1
  have h3 := (at_mem h h1 hy).1
  rw [← he] at h3
  have hl : x.toNat < tl.length := (List.getElem?_eq_some_iff.1 h2).1
  have := (List.getElem?_inj hl (each_nodup h)).1 (h2.trans h3.symm)
  omega
theorem idx_at {n : Nat} {tl : List Int} (h : EachS n tl) {x : Int} (h0 : 0 ≤ x) (hx : x < n) : 0 ≤ idxI tl x ∧ idxI tl x < n ∧ atI tl (idxI tl x) = x := by
  have hm := h.2 x.toNat (by omega)
  rw [show ((x.toNat : Nat) : Int) = x from by omega] at hm
  unfold idxI idxF
  cases hf : tl.findIdx? (fun y => y == x) with
  | none => have := List.findIdx?_eq_none_iff.1 hf x hm; simp at this
  | some k =>
    obtain ⟨hk, hp, _⟩ := List.findIdx?_eq_some_iff_getElem.1 hf
    have h1 := h.1
    refine ⟨by simp, by simp only; omega, ?_⟩
    simp only [atI, Int.toNat_natCast, List.getD_eq_getElem?_getD, List.getElem?_eq_getElem hk, Option.getD_some]
    simpa using hp
theorem idx_of_at {n : Nat} {tl : List Int} (h : EachS n tl) {x : Int} (h0 : 0 ≤ x) (hx : x < n) : idxI tl (atI tl x) = x := by
  have h1 := at_mem h h0 hx
  have h2 := idx_at h h1.2.1 h1.2.2
  exact at_inj h h2.1 h2.2.1 h0 hx h2.2.2
theorem renE_ok {n : Nat} {tl : List Int} {l : List Ed} (h : EachS n tl) (hg : P2.Good n l) {e : Ed} (he : e ∈ l) : 0 ≤ (renE tl e).1 ∧ (renE tl e).1 < (renE tl e).2 ∧ (renE tl e).2 < n := by
  have hm := hg.mem he
  have h1 := at_mem h (x := e.1) (by omega) (by omega)
  have h2 := at_mem h (x := e.2) (by omega) (by omega)
  have hne : atI tl e.1 ≠ atI tl e.2 := fun hh => by have := at_inj h (by omega) (by omega) (by omega) (by omega) hh; omega
  simp only [renE]
  omega
theorem renE_inj {n : Nat} {tl : List Int} {l : List Ed} (h : EachS n tl) (hg : P2.Good n l) {d e : Ed} (hd : d ∈ l) (he : e ∈ l) (heq : renE tl d = renE tl e) : d = e := by
  have m1 := hg.mem hd
  have m2 := hg.mem he
  simp only [renE, Prod.mk.injEq] at heq
  obtain ⟨q1, q2⟩ := heq
  have hc : (atI tl d.1 = atI tl e.1 ∧ atI tl d.2 = atI tl e.2) ∨ (atI tl d.1 = atI tl e.2 ∧ atI tl d.2 = atI tl e.1) := by omega
  rcases hc with ⟨a, b⟩ | ⟨a, b⟩
  · exact Prod.ext (at_inj h (by omega) (by omega) (by omega) (by omega) a) (at_inj h (by omega) (by omega) (by omega) (by omega) b)
  · have := at_inj h (by omega) (by omega) (by omega) (by omega) a
    have := at_inj h (by omega) (by omega) (by omega) (by omega) b
    omega
theorem mem_ren {n : Nat} {tl : List Int} {l : List Ed} (h : EachS n tl) (hg : P2.Good n l) (e : Ed) : e ∈ renL n l tl ↔ ∃ d ∈ l, e = renE tl d := by
  unfold renL
  rw [mem_gw]
  constructor
  · rintro ⟨x, z, hxz, hz, hJ, rfl⟩
    unfold renJ at hJ
    have h1 := idx_at h (x := x) (by omega) (by omega)
    have h2 := idx_at h (x := z) (by omega) (by omega)
    unfold adj at hJ
    rcases of_decide_eq_true hJ with hm | hm
    · refine ⟨_, hm, ?_⟩
      simp only [renE, h1.2.2, h2.2.2]
      exact Prod.ext (by simp only; omega) (by simp only; omega)
    · refine ⟨_, hm, ?_⟩
      simp only [renE, h1.2.2, h2.2.2]
      exact Prod.ext (by simp only; omega) (by simp only; omega)
  · rintro ⟨d, hd, rfl⟩
    have hm := hg.mem hd
    have ho := renE_ok h hg hd
    refine ⟨(renE tl d).1.toNat, (renE tl d).2.toNat, by omega, by omega, ?_, ?_⟩
    · unfold renJ
      rw [show (((renE tl d).1.toNat : Nat) : Int) = (renE tl d).1 from by omega, show (((renE tl d).2.toNat : Nat) : Int) = (renE tl d).2 from by omega]
      have i1 := idx_of_at h (x := d.1) (by omega) (by omega)
      have i2 := idx_of_at h (x := d.2) (by omega) (by omega)
      have hc : ((renE tl d).1 = atI tl d.1 ∧ (renE tl d).2 = atI tl d.2) ∨ ((renE tl d).1 = atI tl d.2 ∧ (renE tl d).2 = atI tl d.1) := by simp only [renE]; omega
      rcases hc with ⟨a, b⟩ | ⟨a, b⟩
      · rw [a, b, i1, i2]; exact decide_eq_true (.inl hd)
      · rw [a, b, i1, i2]; exact decide_eq_true (.inr hd)
    · exact Prod.ext (by simp only; omega) (by simp only; omega)
/-- the list in the making: the first k edges, renamed, in order -/
def RenTo (tl : List Int) (l : List Ed) (k : Nat) (L : List Ed) : Prop := L.length = k ∧ L.Pairwise Lex ∧ ∀ e, e ∈ L ↔ ∃ d ∈ l.take k, e = renE tl d
theorem RenTo.zero (tl : List Int) (l : List Ed) : RenTo tl l 0 [] := ⟨rfl, by simp, fun e => by simp⟩
theorem RenTo.succ {n : Nat} {tl : List Int} {l L L' : List Ed} {k : Nat} {d : Ed} (h : EachS n tl) (hg : P2.Good n l) (hd : l[k]? = some d) (hr : RenTo tl l k L) (hp : PutIs L (renE tl d) L') : RenTo tl l (k + 1) L' := by
  have ht : l.take (k + 1) = l.take k ++ [d] := by rw [List.take_add_one, hd]; rfl
  have hno : renE tl d ∉ L := fun hm => by
    obtain ⟨d', hd', he⟩ := (hr.2.2 _).1 hm
    have := renE_inj h hg (List.mem_of_getElem? hd) (List.mem_of_mem_take hd') he
    subst this
    obtain ⟨j, hj⟩ := List.getElem?_of_mem hd'
    rw [List.getElem?_take] at hj
    split at hj
    · rename_i hjk
      exact Lex.irrefl _ (hg.pair j k _ _ hjk hj hd)
    · cases hj
  refine ⟨by rw [hp.len, hr.1], hp.sorted hr.2.1 hno, fun e => ?_⟩
  rw [hp.mem, hr.2.2, ht]
  constructor
  · rintro (rfl | ⟨x, hx, rfl⟩)
    · exact ⟨d, by simp, rfl⟩
    · exact ⟨x, by simp [hx], rfl⟩
  · rintro ⟨x, hx, rfl⟩
    rcases List.mem_append.1 hx with hx | hx
    · exact .inr ⟨x, hx, rfl⟩
    · rw [List.mem_singleton] at hx; subst hx; exact .inl rfl
theorem RenTo.all {n : Nat} {tl : List Int} {l L : List Ed} (h : EachS n tl) (hg : P2.Good n l) (hr : RenTo tl l l.length L) : L = renL n l tl :=
  sorted_ext hr.2.1 (gwTo_sorted _ _ _) fun e => by rw [hr.2.2, mem_ren h hg, List.take_length]

def RenOk (s : Int) (l : List Ed) (tl : List Int) : Prop := P2.Good s l ∧ EachS s.toNat tl
theorem ren_len (s : Int) (l : List Ed) (tl : List Int) : (edG (RenOk s l tl) (renL s.toNat l tl)).length ≤ 1048576 := edG_len fun h => by
  have := gwTo_len (renJ l tl) s.toNat s.toNat
  have h8 := h.1.2.1
  have h9 : s.toNat ≤ 8 := by omega
  have : s.toNat * s.toNat ≤ 8 * 8 := Nat.mul_le_mul h9 h9
  unfold renL gw; omega
/-- two Graphs beside one another -/
def besJ (s : Int) (l m : List Ed) (x y : Nat) : Bool := adj l x y || adj m (x - s) (y - s)
def besL (n : Nat) (s : Int) (l m : List Ed) : List Ed := gw n (besJ s l m)
def shE (s : Int) (e : Ed) : Ed := (e.1 + s, e.2 + s)
theorem bes_eq {s t : Int} {l m : List Ed} (hl : P2.Good s l) (hm : P2.Good t m) : besL (s + t).toNat s l m = l ++ m.map (shE s) := by
  have hs := hl.1
  have ht := hm.1
  refine sorted_ext (gwTo_sorted _ _ _) ?_ fun e => ?_
  · rw [List.pairwise_append]
    refine ⟨hl.sorted, ?_, ?_⟩
    · rw [List.pairwise_map]
      exact hm.sorted.imp fun {a b} h => by unfold Lex shE at *; omega
    · intro a ha b hb
      obtain ⟨d, hd, rfl⟩ := List.mem_map.1 hb
      have h1 := hl.mem ha
      have h2 := hm.mem hd
      unfold Lex shE
      left
      simp only
      omega
  · show e ∈ gw _ _ ↔ _
    rw [mem_gw, List.mem_append, List.mem_map]
    constructor
    · rintro ⟨x, z, hxz, hz, hJ, rfl⟩
      unfold besJ at hJ
      rw [Bool.or_eq_true] at hJ
      rcases hJ with hJ | hJ
      · rw [adj_lt hl (by omega)] at hJ
        exact .inl (of_decide_eq_true hJ)
      · rw [adj_lt hm (by omega)] at hJ
        exact .inr ⟨_, of_decide_eq_true hJ, by unfold shE; exact Prod.ext (by simp only; omega) (by simp only; omega)⟩
    · rintro (h | ⟨d, hd, rfl⟩)
      · have h1 := hl.mem h
        refine ⟨e.1.toNat, e.2.toNat, by omega, by omega, ?_, Prod.ext (by simp only; omega) (by simp only; omega)⟩
        unfold besJ
        rw [Bool.or_eq_true]
        left
        rw [adj_lt hl (by omega), show ((e.1.toNat : Nat) : Int) = e.1 from by omega, show ((e.2.toNat : Nat) : Int) = e.2 from by omega]
        exact decide_eq_true h
      · have h1 := hm.mem hd
        refine ⟨(d.1 + s).toNat, (d.2 + s).toNat, by omega, by omega, ?_, by unfold shE; exact Prod.ext (by simp only; omega) (by simp only; omega)⟩
        unfold besJ
        rw [Bool.or_eq_true]
        right
        rw [adj_lt hm (by omega), show (((d.1 + s).toNat : Nat) : Int) - s = d.1 from by omega, show (((d.2 + s).toNat : Nat) : Int) - s = d.2 from by omega]
        exact decide_eq_true hd
/-- the first k edges of the second Graph behind those of the first -/
def besTo (s : Int) (l m : List Ed) (k : Nat) : List Ed := l ++ (m.take k).map (shE s)
theorem besTo_zero (s : Int) (l m : List Ed) : besTo s l m 0 = l := by simp [besTo]
theorem besTo_succ {s : Int} {l m : List Ed} {k : Nat} {e : Ed} (h : m[k]? = some e) : besTo s l m (k + 1) = besTo s l m k ++ [(e.1 + s, e.2 + s)] := by
  unfold besTo
  rw [List.take_add_one, h, List.map_append, List.append_assoc]; rfl
theorem besTo_len {s : Int} {l m : List Ed} {k : Nat} (h : k ≤ m.length) : (besTo s l m k).length = l.length + k := by
  unfold besTo; rw [List.length_append, List.length_map, List.length_take]; omega
theorem besTo_all {s : Int} {l m : List Ed} : besTo s l m m.length = l ++ m.map (shE s) := by unfold besTo; rw [List.take_length]
end Go.Proofs.Ytphlpipbhaiijaa.rens
