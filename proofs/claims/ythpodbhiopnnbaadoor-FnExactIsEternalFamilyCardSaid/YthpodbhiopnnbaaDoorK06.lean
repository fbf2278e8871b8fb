/- The contracts of the model's l1Has, l1Put and l2Ball. -/
import Derived.Test.YthpodbhiopnnbaaDoorK02
import Derived.Test.YthpodbhiopnnbaaDoorK04
import Derived.Test.YthpodbhiopnnbaaDoorK05
namespace Go.Proofs.YthpodbhiopnnbaaDoor.balls
open Go.RowKit P2 words edges ints good adjs fns sets apps covs neigh
set_option linter.unusedVariables false

set_option maxHeartbeats 1000000 in
theorem l1Has_any (u : Value) (xs : List Int) (x : Int) (w : World) (hu : Ints w u xs) (hxl : xs.length ≤ 1048576) :
    Calls Tryd.prog 45 #[u, .int .i64 x] w fun e w' => e = .returned (.bool (decide (x ∈ xs))) ∧ w = w' := by
  obtain ⟨A2, c2, rfl, hc⟩ := hu.form
  have HC := Lib.hid hc
  clear hu hc
  go_enter Tryd.func45, Tryd.ntmps45
  go_wp2_with fail
  go_loop [5] (fun i => ∃ k : Nat, k ≤ xs.length ∧ i = .int .i64 (k : Int) ∧ Hid (∀ j y, j < k → xs[j]? = some y → y ≠ x)) (fun i => xs.length - (intOf i).toNat)
  case atStart => exact ⟨0, Nat.zero_le _, rfl, fun j e h => by omega⟩
  case round =>
    obtain ⟨k, hk, rfl, hno⟩ := hrel
    by_cases hlt : k < xs.length
    · obtain ⟨y, hy⟩ : ∃ y, xs[k]? = some y := ⟨_, List.getElem?_eq_getElem hlt⟩
      obtain ⟨g, o, rfl, c0⟩ := HC.out k y hy
      have hlt' : (k : Int) < (xs.length : Int) := by omega
      by_cases hyx : y = x
      · have HN : Hid (decide (x ∈ xs) = true) := by show _ = _; rw [decide_eq_true_iff, ← hyx]; exact List.mem_of_getElem? hy
        have d0 : (y == x) = true := by simpa using hyx
        clear hy hyx
        go_wp2_with fail
        go_ret
        exact ⟨ret_bool HN.out.symm, rfl⟩
      · have HK : Hid (∀ j y, j < k + 1 → xs[j]? = some y → y ≠ x) := fun j z hj hz => by
          by_cases e : j = k
          · subst e; rw [hy] at hz; cases hz; exact hyx
          · exact hno.out j z (by omega) hz
        have d0 : (y == x) = false := by simpa using hyx
        clear hy hyx
        go_wp2_with fail
        go_round
        case rel => exact ⟨k + 1, by omega, by go_num, HK⟩
        case measure => simp [intOf]; omega
    · have HN : Hid (decide (x ∈ xs) = false) := by
        show _ = _
        rw [decide_eq_false_iff_not]
        intro hx
        obtain ⟨j, hj⟩ := List.getElem?_of_mem hx
        exact hno.out j x (by have := (List.getElem?_eq_some_iff.1 hj).1; omega) hj rfl
      go_wp2_with fail
      go_ret
      exact ⟨ret_bool HN.out.symm, rfl⟩

/-- L has x and what l has, ascending -/
def PutI (l : List Int) (x : Int) (L : List Int) : Prop := Asc L ∧ (∀ y, y ∈ L ↔ y = x ∨ y ∈ l) ∧ L.length ≤ l.length + 1
theorem PutI.same {l : List Int} {x : Int} (ha : Asc l) (hx : x ∈ l) : PutI l x l :=
  ⟨ha, fun y => ⟨.inr, fun h => by rcases h with rfl | h; exact hx; exact h⟩, by omega⟩
theorem PutI.new {l : List Int} {x : Int} {k : Nat} (hk : k ≤ l.length) (ha : Asc l) (h1 : ∀ j y, j < k → l[j]? = some y → y < x) (h2 : ∀ y, l[k]? = some y → x < y) : PutI l x (l.take k ++ x :: l.drop k) := by
  have hd : ∀ y ∈ l.drop k, x < y := fun y hy => by
    obtain ⟨j, hj⟩ := List.getElem?_of_mem hy
    rw [List.getElem?_drop] at hj
    rcases Nat.eq_zero_or_pos j with rfl | hj0
    · exact h2 y hj
    · obtain ⟨z, hz⟩ : ∃ z, l[k]? = some z := ⟨_, List.getElem?_eq_getElem (by have := (List.getElem?_eq_some_iff.1 hj).1; omega)⟩
      have := h2 z hz
      have := ha.at_ (by omega) hz hj
      omega
  have ht : ∀ y ∈ l.take k, y < x := fun y hy => by
    obtain ⟨j, hj⟩ := List.getElem?_of_mem hy
    rw [List.getElem?_take] at hj
    split at hj
    · rename_i hjk; exact h1 j y hjk hj
    · cases hj
  refine ⟨?_, fun y => ?_, by simp; omega⟩
  · unfold Asc at *
    rw [List.pairwise_append, List.pairwise_cons]
    refine ⟨ha.sublist (List.take_sublist _ _), ⟨hd, ha.sublist (List.drop_sublist _ _)⟩, fun a hta b hb => ?_⟩
    have := ht a hta
    rcases List.mem_cons.1 hb with rfl | hb
    · exact this
    · have := hd b hb; omega
  · rw [List.mem_append, List.mem_cons]
    constructor
    · rintro (h | h | h)
      · exact .inr (List.mem_of_mem_take h)
      · exact .inl h
      · exact .inr (List.mem_of_mem_drop h)
    · rintro (h | h)
      · exact .inr (.inl h)
      · rw [← List.take_append_drop k l, List.mem_append] at h
        rcases h with h | h
        · exact .inl h
        · exact .inr (.inr h)

theorem one_reads {w : World} {g : Nat} {t : TypeId} {a : Int} (h : Blk w g t #[.int .i64 a]) : Reads w 1 (.slice (some ⟨g, 0, none⟩) 1 1) 1 (cellsI [a]) := by
  refine ⟨_, _, rfl, fun _ => ⟨g, 0, rfl, by omega, fun j u hu => ?_⟩⟩
  rw [Nat.zero_add]
  refine (h.cell j).trans ?_
  rw [← hu]
  match j with
  | 0 => rfl
  | j + 1 => simp [cellsI]
theorem rd1_some {W : World} {g o c k n : Nat} {xs : List Value} (h : Reads W 1 (.slice (if c = k then some ⟨g, o, none⟩ else (some (⟨g, o, none⟩ : Addr)).map (·.add (k * 1))) (n - k) (c - k)) (n - k) xs) :
    Reads W 1 (.slice (if c = k then some ⟨g, o, none⟩ else some ⟨g, o + k, none⟩) (n - k) (c - k)) (n - k) xs := by
  simpa [apps.addr_add] using h

theorem ball_is {n : Nat} {l : List Ed} {x : Int} {L : List Int} (h : PutI (nw (fun y => adj l x y) n) x L) (hx : 0 ≤ x ∧ x < (n : Int)) : L = nw (ballB l x.toNat) n :=
  asc_ext h.1 (nw_asc _ _) fun e => by
    rw [h.2.1 e, mem_nw, mem_nw]
    have hxx : ((x.toNat : Nat) : Int) = x := by omega
    unfold ballB
    rw [hxx]
    constructor
    · rintro (rfl | ⟨j, hj, hp, rfl⟩)
      · exact ⟨e.toNat, by omega, by simp, by omega⟩
      · exact ⟨j, hj, by simp [hp], rfl⟩
    · rintro ⟨j, hj, hp, rfl⟩
      rcases Bool.or_eq_true_iff.1 hp with h1 | h1
      · exact .inl (by have := of_decide_eq_true h1; omega)
      · exact .inr ⟨j, hj, h1, rfl⟩
end Go.Proofs.YthpodbhiopnnbaaDoor.balls
