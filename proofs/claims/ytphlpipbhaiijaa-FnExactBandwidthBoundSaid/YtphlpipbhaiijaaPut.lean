/- The contract of the model's l2Put: an edge is put to its place. -/
import Derived.Test.YtphlpipbhaiijaaApp
import Derived.Test.YtphlpipbhaiijaaGood
import Derived.Test.YtphlpipbhaiijaaInts
import Derived.Deep.DeepCutAuto
namespace Go.Proofs.Ytphlpipbhaiijaa.put
open Go.RowKit P2 words edges ints good apps

/-- L is l with e put to its place -/
def PutIs (l : List Ed) (e : Ed) (L : List Ed) : Prop :=
  ∃ k, k ≤ l.length ∧ (∀ j x, j < k → l[j]? = some x → Lex x e) ∧ (∀ x, l[k]? = some x → ¬ Lex x e) ∧ L = l.take k ++ e :: l.drop k
theorem PutIs.len {l L : List Ed} {e : Ed} (h : PutIs l e L) : L.length = l.length + 1 := by
  obtain ⟨k, hk, _, _, rfl⟩ := h
  simp; omega
theorem PutIs.mem {l L : List Ed} {e x : Ed} (h : PutIs l e L) : x ∈ L ↔ x = e ∨ x ∈ l := by
  obtain ⟨k, hk, _, _, rfl⟩ := h
  rw [List.mem_append, List.mem_cons]
  constructor
  · rintro (h | h | h)
    · exact .inr (List.mem_of_mem_take h)
    · exact .inl h
    · exact .inr (List.mem_of_mem_drop h)
  · rintro (h | h)
    · exact .inr (.inl h)
    · rw [← List.take_append_drop k l, List.mem_append] at h
      rcases h with h | h
      · exact .inl h
      · exact .inr (.inr h)
theorem lex_total {a b : Ed} (h : ¬ Lex a b) (hne : a ≠ b) : Lex b a := by
  unfold Lex at *
  have : ¬ (a.1 = b.1 ∧ a.2 = b.2) := fun hh => hne (Prod.ext hh.1 hh.2)
  omega
theorem PutIs.sorted {l L : List Ed} {e : Ed} (h : PutIs l e L) (hs : l.Pairwise Lex) (he : e ∉ l) : L.Pairwise Lex := by
  obtain ⟨k, hk, h1, h2, rfl⟩ := h
  rw [List.pairwise_append]
  refine ⟨hs.sublist (List.take_sublist _ _), ?_, ?_⟩
  · rw [List.pairwise_cons]
    refine ⟨fun x hx => ?_, hs.sublist (List.drop_sublist _ _)⟩
    have hkl : k < l.length := by
      rcases Nat.lt_or_ge k l.length with h | h
      · exact h
      · rw [List.drop_eq_nil_of_le h] at hx; cases hx
    have hd := List.drop_eq_getElem_cons hkl
    have hk0 := lex_total (h2 l[k] (List.getElem?_eq_getElem hkl)) (fun e' => he (e' ▸ List.getElem_mem hkl))
    rw [hd] at hx
    rcases List.mem_cons.1 hx with rfl | hx
    · exact hk0
    · have hsd := hs.sublist (List.drop_sublist k l)
      rw [hd, List.pairwise_cons] at hsd
      exact hk0.trans (hsd.1 x hx)
  · intro x hx y hy
    obtain ⟨j, hj⟩ := List.getElem?_of_mem hx
    rw [List.getElem?_take] at hj
    split at hj
    · rename_i hjk
      have hxe := h1 j x hjk hj
      rcases List.mem_cons.1 hy with rfl | hy
      · exact hxe
      · have := List.pairwise_append.1 (by rw [List.take_append_drop k l]; exact hs : (l.take k ++ l.drop k).Pairwise Lex)
        exact this.2.2 x hx y hy
    · cases hj

theorem blk_reads {w : World} {g : Nat} {t : TypeId} {a b : Int} (h : Blk w g t #[.int .i64 a, .int .i64 b]) : Reads w 2 (.slice (some ⟨g, 0, none⟩) 1 1) 1 (cellsE [(a, b)]) := by
  refine ⟨_, _, rfl, fun _ => ⟨g, 0, rfl, by omega, fun j u hu => ?_⟩⟩
  rw [Nat.zero_add]
  refine (h.cell j).trans ?_
  rw [← hu]
  match j with
  | 0 => rfl
  | 1 => rfl
  | j + 2 => simp [cellsE]
theorem rd_some {W : World} {g o c k n : Nat} {xs : List Value} (h : Reads W 2 (.slice (if c = k then some ⟨g, o, none⟩ else (some (⟨g, o, none⟩ : Addr)).map (·.add (k * 2))) (n - k) (c - k)) (n - k) xs) :
    Reads W 2 (.slice (if c = k then some ⟨g, o, none⟩ else some ⟨g, o + k * 2, none⟩) (n - k) (c - k)) (n - k) xs := by
  simpa [apps.addr_add] using h

end Go.Proofs.Ytphlpipbhaiijaa.put
