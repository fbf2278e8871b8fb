/- Plain mathematics: joining what was split gives the text back. It imports nothing of the program. -/
import Derived.Test.YtgbnpdgehknfpaaSplits
import Derived.Test.YtgbnpdgehknfpaaJoins
namespace Go.Proofs.Ytgbnpdgehknfpaa.P5
open Go P3 P4

theorem ext_list (s : ByteArray) (a b : Nat) : (s.extract a b).data.toList = (s.data.toList.take b).drop a := by
  simp [List.drop_take]
theorem joinN_prefix (l r : List ByteArray) (c : UInt8) : ∀ k, k ≤ l.length → joinN (l ++ r) c k = joinN l c k
  | 0, _ => rfl
  | k + 1, h => by rw [joinN, joinN, joinN_prefix l r c k (by omega), List.getElem?_append_left (by omega)]
theorem total_join (l : List ByteArray) (c : UInt8) : ∀ k, k ≤ l.length → total (l.take k) ≤ (joinN l c k).length
  | 0, _ => by simp [total]
  | k + 1, h => by
    have ih := total_join l c k (by omega)
    obtain ⟨x, hx⟩ : ∃ x, l[k]? = some x := ⟨_, List.getElem?_eq_getElem (by omega)⟩
    have h1 := total_take_succ hx
    have h2 := joinN_succ (c := c) hx
    have h3 : x.data.toList.length = x.size := Array.length_toList
    rw [h2]
    simp only [List.length_append]
    omega
theorem glue (t : List UInt8) (c : UInt8) (f k : Nat) (hf : 0 < f) (hk : f ≤ k) (hc : t[f - 1]? = some c) : (t.take (f - 1) ++ [c]) ++ (t.take k).drop f = t.take k := by
  have h1 : t.take (f - 1) ++ [c] = t.take f := by
    have := List.take_add_one (l := t) (i := f - 1)
    rw [show f - 1 + 1 = f from by omega, hc] at this
    rw [this]; rfl
  rw [h1]
  have h2 : (t.take k).take f = t.take f := by rw [List.take_take, Nat.min_eq_left hk]
  rw [← h2, List.take_append_drop]

/-- what holds of the cut behind k bytes -/
structure CutOk (t : List UInt8) (c : UInt8) (k : Nat) (P : List ByteArray) (f : Nat) : Prop where
  le : f ≤ k
  clear : ∀ j, f ≤ j → j < k → t[j]? ≠ some c
  none : ∀ x ∈ P, c ∉ x.data.toList
  glued : (P = [] ∧ f = 0) ∨ (P ≠ [] ∧ 0 < f ∧ t[f - 1]? = some c ∧ joinN P c P.length = t.take (f - 1))

theorem join_last {t : List UInt8} {c : UInt8} {k : Nat} {P : List ByteArray} {f : Nat} (h : CutOk t c k P f) (x : ByteArray) (hx : x.data.toList = (t.take k).drop f) :
    joinN (P ++ [x]) c (P ++ [x]).length = t.take k := by
  have e : (P ++ [x])[P.length]? = some x := by simp
  rw [show (P ++ [x]).length = P.length + 1 from by simp, joinN_succ e, joinN_prefix P [x] c P.length (Nat.le_refl _), hx]
  rcases h.glued with ⟨rfl, rfl⟩ | ⟨h1, h2, h3, h4⟩
  · simp [joinN]
  · have hn : P.length ≠ 0 := fun e => h1 (List.length_eq_zero_iff.1 e)
    rw [if_neg hn, h4]
    exact glue t c f k h2 h.le h3
theorem not_in {t : List UInt8} {c : UInt8} {k : Nat} {P : List ByteArray} {f : Nat} (h : CutOk t c k P f) : c ∉ (t.take k).drop f := by
  intro hm
  obtain ⟨j, hj⟩ := List.getElem?_of_mem hm
  rw [List.getElem?_drop, List.getElem?_take] at hj
  split at hj
  · exact h.clear (f + j) (by omega) (by assumption) hj
  · cases hj

theorem cut_ok (s : ByteArray) (c : UInt8) : ∀ k, k ≤ s.size → CutOk s.data.toList c k (cutN s c k).1 (cutN s c k).2
  | 0, _ => ⟨Nat.le_refl _, fun _ _ h => by omega, fun _ h => (by cases h), .inl ⟨rfl, rfl⟩⟩
  | k + 1, hk => by
    have ih := cut_ok s c k (by omega)
    rw [cutN]
    split
    · rename_i hc
      have hx := ext_list s (cutN s c k).2 k
      refine ⟨Nat.le_refl _, fun j h1 h2 => by omega, fun x hx' => ?_, .inr ⟨by simp, Nat.succ_pos _, by simpa using hc, by simpa using join_last ih _ hx⟩⟩
      rcases List.mem_append.1 hx' with h | h
      · exact ih.none x h
      · rw [List.mem_singleton] at h
        rw [h, hx]; exact not_in ih
    · rename_i hc
      refine ⟨Nat.le_succ_of_le ih.le, fun j h1 h2 => ?_, ih.none, ih.glued⟩
      by_cases e : j = k
      · rw [e]; exact hc
      · exact ih.clear j h1 (by omega)

theorem join_split (s : ByteArray) (c : UInt8) : joinN (splitN s c) c (splitN s c).length = s.data.toList := by
  have h := join_last (cut_ok s c s.size (Nat.le_refl _)) (s.extract (cutN s c s.size).2 s.size) (ext_list s _ _)
  rw [List.take_of_length_le (by rw [Array.length_toList]; exact Nat.le_refl _)] at h
  exact h
theorem ok_split (s : ByteArray) (c : UInt8) (hs : s.size ≤ 4000) : okJoin (splitN s c) c = true := by
  have ho := cut_ok s c s.size (Nat.le_refl _)
  unfold okJoin
  rw [decide_eq_true_iff]
  refine ⟨fun x hx => ?_, by rw [join_split, Array.length_toList]; exact hs⟩
  rcases List.mem_append.1 hx with h | h
  · exact ho.none x h
  · rw [List.mem_singleton] at h
    rw [h, ext_list]; exact not_in ho
theorem out_split (s : ByteArray) (c : UInt8) (hs : s.size ≤ 4000) : (⟨(outJoin (splitN s c) c).toArray⟩ : ByteArray) = s := by
  rw [out_yes (ok_split s c hs), join_split]
theorem total_split (s : ByteArray) (c : UInt8) : total (splitN s c) ≤ s.size := by
  have h := total_join (splitN s c) c (splitN s c).length (Nat.le_refl _)
  rw [List.take_length, join_split, Array.length_toList] at h
  exact h
end Go.Proofs.Ytgbnpdgehknfpaa.P5
