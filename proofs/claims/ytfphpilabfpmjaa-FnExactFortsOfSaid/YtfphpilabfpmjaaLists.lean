/- The lists of cops, by their first nodes and by their last ones. It imports nothing of the program. -/
namespace Go.Proofs.Ytfphpilabfpmjaa.lists
set_option linter.unusedVariables false

def castL (L : List Nat) : List Int := L.map fun x : Nat => (x : Int)
theorem castL_len (L : List Nat) : (castL L).length = L.length := by simp [castL]
theorem castL_cons (x : Nat) (L : List Nat) : castL (x :: L) = (x : Int) :: castL L := rfl
theorem castL_snoc (L : List Nat) (x : Nat) : castL (L ++ [x]) = castL L ++ [(x : Int)] := by simp [castL]
theorem castL_at {L : List Nat} {k x : Nat} (h : L[k]? = some x) : (castL L)[k]? = some (x : Int) := by simp [castL, h]
/-- f, f + 1, .., x - 1 -/
def upL (f x : Nat) : List Nat := List.range' f (x - f)
theorem upL_nil (f : Nat) : upL f f = [] := by simp [upL]
theorem upL_succ {f x : Nat} (h : f ≤ x) : upL f (x + 1) = upL f x ++ [x] := by
  unfold upL
  rw [show x + 1 - f = (x - f) + 1 from by omega, List.range'_1_concat, show f + (x - f) = x from by omega]
theorem upL_mem {f x y : Nat} : y ∈ upL f x ↔ f ≤ y ∧ y < x := by
  unfold upL
  rw [List.mem_range'_1]
  omega
theorem upL_len (f x : Nat) : (upL f x).length = x - f := by simp [upL]
/-- all lists of k nodes of f, .., n - 1, in order -/
def listsN (n : Nat) : Nat → Nat → List (List Nat)
  | 0, _ => [[]]
  | k + 1, f => (upL f n).flatMap fun x => (listsN n k x).map (x :: ·)
def outK (n k f x : Nat) : List (List Nat) := (upL f x).flatMap fun y => (listsN n k y).map (y :: ·)
theorem outK_nil (n k f : Nat) : outK n k f f = [] := by unfold outK; rw [upL_nil]; rfl
theorem outK_all (n k f : Nat) : outK n k f n = listsN n (k + 1) f := rfl
theorem outK_succ {n k f x : Nat} (h : f ≤ x) : outK n k f (x + 1) = outK n k f x ++ (listsN n k x).map (x :: ·) := by
  unfold outK; rw [upL_succ h, List.flatMap_append]; simp
theorem flatMap_le {α β : Type} {M : Nat} {F : α → List β} : ∀ (L : List α), (∀ a ∈ L, (F a).length ≤ M) → (L.flatMap F).length ≤ L.length * M
  | [], _ => by simp
  | a :: L, h => by
    rw [List.flatMap_cons, List.length_append, List.length_cons, Nat.succ_mul]
    have h1 := h a List.mem_cons_self
    have h2 := flatMap_le L fun b hb => h b (List.mem_cons_of_mem _ hb)
    omega
theorem lists_len {n : Nat} (hn : n ≤ 8) : ∀ k f, (listsN n k f).length ≤ 8 ^ k
  | 0, f => by simp [listsN]
  | k + 1, f => by
    have h := flatMap_le (M := 8 ^ k) (F := fun x => (listsN n k x).map (x :: ·)) (upL f n) fun a _ => by rw [List.length_map]; exact lists_len hn k a
    rw [upL_len] at h
    have h2 : (n - f) * 8 ^ k ≤ 8 * 8 ^ k := Nat.mul_le_mul_right _ (by omega)
    rw [Nat.pow_succ, Nat.mul_comm (8 ^ k) 8]
    exact Nat.le_trans h h2
theorem out_len {n : Nat} (hn : n ≤ 8) {k f x : Nat} (hx : x ≤ n) : (outK n k f x).length ≤ 8 * 8 ^ k := by
  have h := flatMap_le (M := 8 ^ k) (F := fun x => (listsN n k x).map (x :: ·)) (upL f x) fun a _ => by rw [List.length_map]; exact lists_len hn k a
  rw [upL_len] at h
  exact Nat.le_trans h (Nat.mul_le_mul_right _ (by omega))
/-- each has k nodes -/
theorem lists_mem {n : Nat} : ∀ (k f : Nat) (L : List Nat), L ∈ listsN n k f → L.length = k ∧ ∀ x ∈ L, f ≤ x ∧ x < n
  | 0, f, L, h => by
    have : L = [] := by simpa [listsN] using h
    subst this
    exact ⟨rfl, fun x hx => by simp at hx⟩
  | k + 1, f, L, h => by
    obtain ⟨x, hx, h2⟩ := List.mem_flatMap.1 (show L ∈ (upL f n).flatMap _ from h)
    obtain ⟨M, hM, rfl⟩ := List.mem_map.1 h2
    obtain ⟨h3, h4⟩ := lists_mem k x M hM
    have hx2 := upL_mem.1 hx
    refine ⟨by simp [h3], fun y hy => ?_⟩
    rcases List.mem_cons.1 hy with rfl | hy
    · exact hx2
    · have := h4 y hy; omega
/-- the last node, f if there is none -/
def lastD (f : Nat) (L : List Nat) : Nat := L.getLast?.getD f
theorem last_cons (f x : Nat) (L : List Nat) : lastD f (x :: L) = lastD x L := by
  unfold lastD
  cases L with
  | nil => rfl
  | cons y L => simp [List.getLast?_eq_some_getLast]
/-- a list's longer ones -/
def extL (n f : Nat) (L : List Nat) : List (List Nat) := (upL (lastD f L) n).map fun x => L ++ [x]
theorem flatMap_one {α β : Type} {g : α → β} : ∀ L : List α, L.flatMap (fun x => [g x]) = L.map g
  | [] => rfl
  | a :: L => by rw [List.flatMap_cons, List.map_cons, flatMap_one L]; rfl
theorem lists_snoc (n : Nat) : ∀ k f, listsN n (k + 1) f = (listsN n k f).flatMap (extL n f)
  | 0, f => by
    show (upL f n).flatMap (fun x => (listsN n 0 x).map (x :: ·)) = [[]].flatMap (extL n f)
    show (upL f n).flatMap (fun x => [[x]]) = ((upL f n).map fun x => [] ++ [x]) ++ []
    rw [List.append_nil, flatMap_one]
    rfl
  | k + 1, f => by
    show (upL f n).flatMap (fun x => (listsN n (k + 1) x).map (x :: ·)) = ((upL f n).flatMap fun x => (listsN n k x).map (x :: ·)).flatMap (extL n f)
    rw [List.flatMap_assoc]
    congr 1
    funext x
    rw [lists_snoc n k x, List.map_flatMap, List.flatMap_map]
    congr 1
    funext L
    unfold extL
    rw [last_cons, List.map_map]
    rfl
end Go.Proofs.Ytfphpilabfpmjaa.lists
