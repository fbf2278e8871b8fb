/- Guards: the contracts of the model's l10Good, l10Sets and GuardSets. -/
import Derived.Handy
import Derived.Test.YtdhbaegkogklgaaDoorK21
import Derived.Test.YtdhbaegkogklgaaDoorK19
import Derived.Test.YtdhbaegkogklgaaDoorK01
import Derived.Deep.DeepCutAuto
import Derived.Deep.RegionHeld3
import Derived.Deep.QuietTactic
import Derived.Test.YtdhbaegkogklgaaDoorK22
import Derived.Test.YtdhbaegkogklgaaDoorK20
import Derived.Maps.AppendAt
import Derived.ProofKit
import Derived.Test.YtdhbaegkogklgaaDoorK03
namespace Go.Proofs.YtdhbaegkogklgaaDoor.ups
open Go.RowKit P2 words edges ints owns good adjs fns sets rets covs bitsI func grid gridl
set_option linter.unusedVariables false

theorem l10Sets_any (n m : Nat) (v : Value) (w : World) (hn : n ≤ 8) (hm : m ≤ 8) :
    Calls Tryd.prog 37 #[.agg #[.int .i64 (n : Int), v], .int .i64 (m : Int)] w (RetX w (rowN (setsK n m))) := by
  have b0 : Below w.heap.size w (w.alloc (.cells #[.int .i64 (n : Int), v] 29)) := (Below.refl _ _).alloc (Nat.le_refl _) _
  have g0 := Blk.new w 29 #[.int .i64 (n : Int), v]
  obtain ⟨p0, p1, -, -⟩ := g0.two
  have HA := Lib.hid (l2All_any n v (w.alloc (.cells #[.int .i64 (n : Int), v] 29)) hn)
  have HB0 := Lib.hid b0
  have HCH : Hid (∀ (u : Value) (W : World), Ints W u (allN n) → Calls Tryd.prog 89 #[u, .int .i64 (m : Int)] W (RetX W (rowN (setsK n m)))) := fun u W hu => by
    have h_ := l8Choices_any m (by omega) u (allN n) W hu (by rw [allN_len]; exact hn)
    have h2 := chL_sets ⟨n, by omega⟩ ⟨m, by omega⟩
    simp only at h2
    rw [h2] at h_
    exact h_
  clear b0 g0
  go_enter Tryd.func37, Tryd.ntmps37
  go_wp2_with fail
  refine HA.out.mono ?_
  rintro e w1 ⟨A1, c1, rfl, o1, b1⟩
  have HE1 := Lib.hid (btrans HB0.out b1)
  have HC := Lib.hid (HCH.out _ w1 (show Ints w1 _ _ from Reads.of_own o1))
  clear o1 b1
  go_wp2_with fail
  refine HC.out.mono ?_
  rintro e w2 ⟨A2, c2, us, rfl, o2, b2⟩
  go_wp2_with fail
  go_ret
  exact ⟨A2, c2, us, rfl, o2.base HE1.out.size, btrans HE1.out b2⟩
end Go.Proofs.YtdhbaegkogklgaaDoor.ups

/- Guards: the contracts of the model's LeastDominating. -/
namespace Go.Proofs.YtdhbaegkogklgaaDoor.ups
open Go.RowKit P2 words edges ints good adjs fns sets rets covs bags balls bitsI func costs
set_option linter.unusedVariables false

theorem code_nwD {n b : Nat} (hb : b < 2 ^ n) : codeL (nw (bitB b) n) = b := by
  have hs : ∀ x ∈ nw (bitB b) n, (0 : Int) ≤ x := fun x hx => by obtain ⟨j, _, _, rfl⟩ := mem_nw.1 hx; omega
  apply Nat.eq_of_testBit_eq
  intro i
  rw [code_bit hs, Bool.eq_iff_iff, decide_eq_true_iff, mem_nw]
  constructor
  · rintro ⟨j, _, hp, e⟩
    have : i = j := by omega
    subst this; exact hp
  · intro h
    refine ⟨i, ?_, h, rfl⟩
    by_cases e : i < n
    · exact e
    · rw [Nat.testBit_lt_two_pow (Nat.lt_of_lt_of_le hb (Nat.pow_le_pow_right (by decide) (by omega)))] at h
      cases h
theorem ld_len (s : Int) (l : List Ed) : (inG (P2.Good s l) (ndN (ldN s.toNat l))).length ≤ 1048576 := inG_len fun _ => by
  unfold ndN
  have := nw_len (bitB (ldN s.toNat l)) 8
  omega
end Go.Proofs.YtdhbaegkogklgaaDoor.ups

/- Guards: the contract of the model's GuardAnswers. -/
namespace Go.Proofs.YtdhbaegkogklgaaDoor.ups
open Go.RowKit P2 words edges ints owns good adjs fns sets rets covs bags balls bitsI func lists grid gridr trip
set_option linter.unusedVariables false

theorem setsK_nd {n k : Nat} (hn : n ≤ 8) (hk : k ≤ 8) {i j a b : Nat} (hij : i < j) (ha : (setsK n k)[i]? = some a) (hb : (setsK n k)[j]? = some b) : a ≠ b := by
  have h := (down_pair (sets_parts hn hk).2.2.1).sublist (List.filter_sublist (p := fun x => !decide (onesN x < k)))
  have h2 := List.pairwise_iff_getElem.1 h
  obtain ⟨h3, h4⟩ := List.getElem?_eq_some_iff.1 ha
  obtain ⟨h5, h6⟩ := List.getElem?_eq_some_iff.1 hb
  have := h2 i j h3 h5 hij
  intro e
  have h7 : (setsK n k)[i] = (setsK n k)[j] := by rw [h4, h6, e]
  unfold setsK at h7
  rw [h7] at this
  omega
theorem ndN_inj {a b : Nat} (ha : a < 256) (hb : b < 256) (h : ndN a = ndN b) : a = b := by
  have h1 : ∀ c, c < 256 → codeL (ndN c) = c := fun c hc => by
    have h_ := code_nwD (n := 8) (b := c) hc
    exact h_
  rw [← h1 a ha, ← h1 b hb, h]
/-- the place of a set among all of its size -/
theorem place_of {n k a : Nat} (hn : n ≤ 8) (hk : k ≤ 8) (ha : a < 2 ^ n) (ho : onesN a = k) : ∃ m, (setsK n k)[m]? = some a ∧ ∀ (j : Nat) (y : List Int), j < m → (rowN (setsK n k))[j]? = some y → y ≠ ndN a := by
  obtain ⟨m, hm⟩ := List.getElem?_of_mem ((setsK_mem hn hk).2 ⟨ha, ho⟩)
  refine ⟨m, hm, fun j y hj hy e => ?_⟩
  unfold rowN at hy
  rw [List.getElem?_map] at hy
  cases hb : (setsK n k)[j]? with
  | none => rw [hb] at hy; cases hy
  | some b =>
    rw [hb] at hy
    have hy : y = ndN b := by simpa using hy.symm
    have hb2 := ((setsK_mem hn hk).1 (List.mem_of_getElem? hb)).1
    rw [e] at hy
    exact setsK_nd hn hk hj hb hm (ndN_inj (Nat.lt_of_lt_of_le hb2 (pow_le hn)) (Nat.lt_of_lt_of_le ha (pow_le hn)) hy.symm)
/-- the lists at the first places -/
def pkT (l : List Ed) (all : Bool) (x a : Nat) (L : List Nat) (j : Nat) : List (List Int) := ((plL l all x a L).take j).map fun i => ndN (L.getD i.toNat 0)
theorem pkT_succ {l : List Ed} {all : Bool} {x a : Nat} {L : List Nat} {j i : Nat} (h : (plL l all x a L)[j]? = some (i : Int)) : pkT l all x a L (j + 1) = pkT l all x a L j ++ [ndN (L.getD i 0)] := by
  unfold pkT
  rw [List.take_add_one, h, List.map_append]; rfl
theorem pkT_all (l : List Ed) (all : Bool) (x a : Nat) (L : List Nat) : pkT l all x a L (plL l all x a L).length = rowN (L.filter (ansB l all x a)) := by
  unfold pkT plL rowN nw
  rw [List.take_length, List.map_map]
  have key : ∀ (M : List Nat), ((List.range M.length).filter (fun i => ansB l all x a (M.getD i 0))).map (fun i => M.getD i 0) = M.filter (ansB l all x a) := by
    intro M
    induction M with
    | nil => rfl
    | cons b M ih =>
      rw [List.length_cons, List.range_succ_eq_map, List.filter_cons, List.filter_map, List.filter_cons]
      have h2 : List.map (fun i => (b :: M).getD i 0) (List.map Nat.succ ((List.range M.length).filter ((fun i => ansB l all x a ((b :: M).getD i 0)) ∘ Nat.succ))) = M.filter (ansB l all x a) := by
        rw [List.map_map, ← ih]
        rfl
      show List.map _ (if ansB l all x a b = true then _ else _) = _
      split
      · rw [List.map_cons, h2]; rfl
      · exact h2
  rw [← key L, List.map_map]
  apply List.map_congr_left
  intro i _
  simp
theorem plL_at {l : List Ed} {all : Bool} {x a : Nat} {L : List Nat} {j : Nat} {z : Int} (h : (plL l all x a L)[j]? = some z) : ∃ i : Nat, z = (i : Int) ∧ i < L.length := by
  obtain ⟨i, hi, hlt, _⟩ := reach.nw_at h
  exact ⟨i, hi, hlt⟩
theorem plL_up {l : List Ed} {all : Bool} {x a : Nat} {L : List Nat} {j k : Nat} {i m : Nat} (hjk : j < k) (hi : (plL l all x a L)[j]? = some (i : Int)) (hm : (plL l all x a L)[k]? = some (m : Int)) : i < m := by
  have h := List.pairwise_iff_getElem.1 (nw_asc (plP l all x a L) L.length)
  obtain ⟨h1, e1⟩ := List.getElem?_eq_some_iff.1 hi
  obtain ⟨h2, e2⟩ := List.getElem?_eq_some_iff.1 hm
  have := h j k h1 h2 hjk
  unfold plL at e1 e2
  rw [e1, e2] at this
  omega
theorem nodeG_yes {x s : Int} (h : 0 ≤ x ∧ x < s) : inB x 0 (s - 1) = true := by unfold inB; exact decide_eq_true (by omega)
theorem nodeG_no {x s : Int} (h : ¬ (0 ≤ x ∧ x < s)) : inB x 0 (s - 1) = false := by unfold inB; exact decide_eq_false (by omega)
theorem rowN_tot (L : List Nat) : gridl.tot (rowN L) ≤ L.length * 8 := by
  unfold gridl.tot rowN
  induction L with
  | nil => simp
  | cons c L ih =>
    have : (ndN c).length ≤ 8 := nw_len _ _
    simp only [List.map_cons, List.sum_cons, List.length_cons] at ih ⊢
    omega
theorem gd_bound {p : Prop} {L : List Nat} (h : p → L.length ≤ 256) : gridl.tot (gdG p (rowN L)) ≤ 1048576 ∧ (gdG p (rowN L)).length ≤ 1048576 := by
  by_cases hp : p
  · rw [gdG_yes hp, rowN_len]
    have h1 := rowN_tot L
    have h2 := h hp
    omega
  · rw [gdG_no hp]; simp [gridl.tot]
theorem ga_len (s x : Int) (l : List Ed) (all : Bool) (xs : List Int) : gridl.tot (gdG (AtOk s l xs x) (rowN (gaN s l all xs x))) ≤ 1048576 ∧ (gdG (AtOk s l xs x) (rowN (gaN s l all xs x))).length ≤ 1048576 := gd_bound fun h => by
  have h8 := h.1.1.2.1
  have h0 := h.1.1.1
  obtain ⟨n, rfl⟩ : ∃ n : Nat, s = (n : Int) := ⟨s.toNat, by omega⟩
  have hn : n ≤ 8 := by omega
  have hk := Nat.le_trans (asc_len h.1.2.2 h.1.2.1) hn
  unfold gaN
  exact Nat.le_trans (List.length_filter_le _ _) (setsK_len (by omega) hk)
end Go.Proofs.YtdhbaegkogklgaaDoor.ups

/- The first best one of a list: mathematics. -/
namespace Go.Proofs.YtdhbaegkogklgaaDoor.ups
set_option linter.unusedVariables false

/-- the first one of a list that no other one beats -/
def pkF {α : Type} [Inhabited α] (r : α → α → Bool) : List α → α
  | [] => default
  | x :: xs => xs.foldl (fun m y => if r m y = true then y else m) x
theorem pk_snoc {α : Type} [Inhabited α] {r : α → α → Bool} {L : List α} {y : α} (h : L ≠ []) : pkF r (L ++ [y]) = if r (pkF r L) y = true then y else pkF r L := by
  cases L with
  | nil => exact absurd rfl h
  | cons x xs =>
    show ((xs ++ [y]).foldl _ x) = _
    rw [List.foldl_append]; rfl
theorem pk_succ {α : Type} [Inhabited α] {r : α → α → Bool} {L : List α} {k : Nat} {y : α} (hk : 0 < k) (h : L[k]? = some y) : pkF r (L.take (k + 1)) = if r (pkF r (L.take k)) y = true then y else pkF r (L.take k) := by
  have hl := (List.getElem?_eq_some_iff.1 h).1
  rw [List.take_add_one, h]
  exact pk_snoc (fun e => by have := congrArg List.length e; rw [List.length_take, List.length_nil] at this; omega)
theorem pk_one {α : Type} [Inhabited α] {r : α → α → Bool} {L : List α} {y : α} (h : L[0]? = some y) : pkF r (L.take 1) = y := by
  cases L with
  | nil => cases h
  | cons x xs => cases h; rfl
theorem pk_all {α : Type} [Inhabited α] (r : α → α → Bool) (L : List α) : pkF r (L.take L.length) = pkF r L := by rw [List.take_length]
/-- more is better -/
def upR (f : Nat → Int) (m y : Nat) : Bool := decide (f m < f y)
/-- less is better -/
def dnR (f : Int → Int) (m y : Int) : Bool := decide (f y < f m)
theorem pk_up {f : Nat → Int} {L : List Nat} : ∀ k, 0 < k → k ≤ L.length → pkF (upR f) (L.take k) ∈ L ∧ ∀ z ∈ L.take k, f z ≤ f (pkF (upR f) (L.take k)) := by
  intro k
  induction k with
  | zero => intro h; omega
  | succ k ih =>
    intro _ hk
    obtain ⟨y, hy⟩ : ∃ y, L[k]? = some y := ⟨_, List.getElem?_eq_getElem hk⟩
    by_cases hk0 : k = 0
    · subst hk0
      rw [pk_one hy]
      refine ⟨List.mem_of_getElem? hy, fun z hz => ?_⟩
      rw [List.take_add_one, hy] at hz
      simp at hz
      rw [hz]; exact Int.le_refl _
    · obtain ⟨h1, h2⟩ := ih (by omega) (by omega)
      rw [pk_succ (by omega) hy]
      unfold upR
      by_cases hlt : f (pkF (upR f) (L.take k)) < f y
      · rw [show decide (f (pkF (fun m y => decide (f m < f y)) (L.take k)) < f y) = true from decide_eq_true hlt, if_pos rfl]
        refine ⟨List.mem_of_getElem? hy, fun z hz => ?_⟩
        rw [List.take_add_one, hy, List.mem_append] at hz
        rcases hz with hz | hz
        · have := h2 z hz; omega
        · simp at hz; rw [hz]; exact Int.le_refl _
      · rw [show decide (f (pkF (fun m y => decide (f m < f y)) (L.take k)) < f y) = false from decide_eq_false hlt, if_neg (by decide)]
        refine ⟨h1, fun z hz => ?_⟩
        rw [List.take_add_one, hy, List.mem_append] at hz
        rcases hz with hz | hz
        · exact h2 z hz
        · simp at hz; rw [hz]; exact Int.not_lt.1 hlt
theorem pk_dn {f : Int → Int} {L : List Int} : ∀ k, 0 < k → k ≤ L.length → ∃ i, i < k ∧ L[i]? = some (pkF (dnR f) (L.take k)) ∧ (∀ j z, j < k → L[j]? = some z → f (pkF (dnR f) (L.take k)) ≤ f z) ∧ ∀ j z, j < i → L[j]? = some z → f (pkF (dnR f) (L.take k)) < f z := by
  intro k
  induction k with
  | zero => intro h; omega
  | succ k ih =>
    intro _ hk
    obtain ⟨y, hy⟩ : ∃ y, L[k]? = some y := ⟨_, List.getElem?_eq_getElem hk⟩
    by_cases hk0 : k = 0
    · subst hk0
      rw [pk_one hy]
      refine ⟨0, by omega, hy, fun j z hj hz => ?_, fun j z hj => by omega⟩
      obtain rfl : j = 0 := by omega
      rw [hy] at hz; cases hz; exact Int.le_refl _
    · obtain ⟨i, hi, h1, h2, h3⟩ := ih (by omega) (by omega)
      rw [pk_succ (by omega) hy]
      unfold dnR
      by_cases hlt : f y < f (pkF (dnR f) (L.take k))
      · rw [show decide (f y < f (pkF (fun m y => decide (f y < f m)) (L.take k))) = true from decide_eq_true hlt, if_pos rfl]
        refine ⟨k, by omega, hy, fun j z hj hz => ?_, fun j z hj hz => ?_⟩
        · by_cases e : j = k
          · subst e; rw [hy] at hz; cases hz; exact Int.le_refl _
          · have := h2 j z (by omega) hz; omega
        · have := h2 j z hj hz; omega
      · rw [show decide (f y < f (pkF (fun m y => decide (f y < f m)) (L.take k))) = false from decide_eq_false hlt, if_neg (by decide)]
        refine ⟨i, by omega, h1, fun j z hj hz => ?_, h3⟩
        by_cases e : j = k
        · subst e; rw [hy] at hz; cases hz; exact Int.not_lt.1 hlt
        · exact h2 j z (by omega) hz
end Go.Proofs.YtdhbaegkogklgaaDoor.ups

/- Guards: best answers and worst attacks: mathematics. -/
namespace Go.Proofs.YtdhbaegkogklgaaDoor.ups
open Go.RowKit P2 words edges ints good adjs fns sets rets covs bitsI
set_option linter.unusedVariables false

/-- the answers to an attack -/
def ansF (l : List Ed) (all : Bool) (L : List Nat) (x a : Nat) : List Nat := L.filter (ansB l all x a)
/-- the best of them -/
noncomputable def banV (n : Nat) (l : List Ed) (all : Bool) (L : List Nat) (x a : Nat) : Nat := pkF (upR (resP n l all L)) (ansF l all L x a)
/-- what an attack leaves -/
noncomputable def lvV (n : Nat) (l : List Ed) (all : Bool) (L : List Nat) (a : Nat) (x : Int) : Int := if (ansF l all L x.toNat a).length = 0 then -1 else resP n l all L (banV n l all L x.toNat a)
/-- the worst attack -/
noncomputable def watX (n : Nat) (l : List Ed) (all : Bool) (L : List Nat) (a : Nat) : Int := pkF (dnR (lvV n l all L a)) (nw (fun x => !a.testBit x) n)
theorem ansF_mem {l : List Ed} {all : Bool} {L : List Nat} {x a b : Nat} (h : b ∈ ansF l all L x a) : b ∈ L ∧ ansB l all x a b = true := List.mem_filter.1 h
theorem banV_mem {n : Nat} {l : List Ed} {all : Bool} {L : List Nat} {x a : Nat} (h : ansF l all L x a ≠ []) : banV n l all L x a ∈ ansF l all L x a := by
  have := (pk_up (f := resP n l all L) (ansF l all L x a).length (List.length_pos_iff.2 h) (Nat.le_refl _)).1
  rwa [pk_all] at this
theorem banV_le {n : Nat} {l : List Ed} {all : Bool} {L : List Nat} {x a z : Nat} (h : z ∈ ansF l all L x a) : resP n l all L z ≤ resP n l all L (banV n l all L x a) := by
  have := (pk_up (f := resP n l all L) (ansF l all L x a).length (List.length_pos_iff.2 (fun e => by rw [e] at h; simp at h)) (Nat.le_refl _)).2
  rw [pk_all, List.take_length] at this
  exact this z h
theorem resP_lt {n : Nat} {l : List Ed} {all : Bool} {L : List Nat} {a : Nat} (hL : L.length ≤ 256) (ha : a ∈ L) : (resV n l all L a < 0 ↔ resP n l all L a = 9223372036854775807) ∧ (¬ resV n l all L a < 0 → resP n l all L a = resV n l all L a) ∧ 0 ≤ resP n l all L a ∧ resP n l all L a ≤ 9223372036854775807 := by
  have hb := resP_back (n := n) (l := l) (all := all) hL ha
  unfold resP
  by_cases h : resV n l all L a < 0
  · rw [if_pos h]; exact ⟨⟨fun _ => rfl, fun _ => h⟩, fun h2 => absurd h h2, by omega, by omega⟩
  · rw [if_neg h]; exact ⟨⟨fun h2 => absurd h2 h, fun h2 => by omega⟩, fun _ => rfl, by omega, by omega⟩
end Go.Proofs.YtdhbaegkogklgaaDoor.ups

/- The contracts of the program's byNumber, of slices.MaxFunc over sets and of slices.MinFunc over integers. -/
namespace Go.Proofs.YtdhbaegkogklgaaDoor.ups
open Go.RowKit P2 words edges ints good adjs fns sets rets covs bitsI func near
set_option linter.unusedVariables false

/-- a function value that compares two sets of a list by a number -/
structure FnC (w : World) (f : FuncId) (caps : Array Value) (xs : List Nat) (F : Nat → Int) : Prop where
  enter : ∀ (args : Array Value) (W : World), (callFunc f args).run Tryd.prog W = .ok (.enter f args) W
  call : ∀ W, Below w.heap.size w W → ∀ x ∈ xs, ∀ y ∈ xs, Calls Tryd.prog f (#[.int .u64 (x : Int), .int .u64 (y : Int)] ++ caps) W fun e W' => e = .returned (.int .i64 (cmpI (F x) (F y))) ∧ Below W.heap.size W W'
/-- the same for integers -/
structure FnCI (w : World) (f : FuncId) (caps : Array Value) (xs : List Int) (F : Int → Int) : Prop where
  enter : ∀ (args : Array Value) (W : World), (callFunc f args).run Tryd.prog W = .ok (.enter f args) W
  call : ∀ W, Below w.heap.size w W → ∀ x ∈ xs, ∀ y ∈ xs, Calls Tryd.prog f (#[.int .i64 x, .int .i64 y] ++ caps) W fun e W' => e = .returned (.int .i64 (cmpI (F x) (F y))) ∧ Below W.heap.size W W'
/-- a function value that returns a number for integers -/
structure FnNI (w : World) (f : FuncId) (caps : Array Value) (xs : List Int) (F : Int → Int) : Prop where
  enter : ∀ (args : Array Value) (W : World), (callFunc f args).run Tryd.prog W = .ok (.enter f args) W
  call : ∀ W, Below w.heap.size w W → ∀ x ∈ xs, Calls Tryd.prog f (#[.int .i64 x] ++ caps) W fun e W' => e = .returned (.int .i64 (F x)) ∧ Below W.heap.size W W'
theorem cmp_up {a b : Int} : decide (0 < cmpI a b) = decide (b < a) := by
  unfold cmpI
  split
  · rw [decide_eq_false (by omega), decide_eq_false (by omega)]
  · split
    · rw [decide_eq_true (by omega), decide_eq_true (by omega)]
    · rw [decide_eq_false (by omega), decide_eq_false (by omega)]
theorem cmp_dn {a b : Int} : decide (cmpI a b < 0) = decide (a < b) := by
  unfold cmpI
  split
  · rw [decide_eq_true (by omega), decide_eq_true (by omega)]
  · split
    · rw [decide_eq_false (by omega), decide_eq_false (by omega)]
    · rw [decide_eq_false (by omega), decide_eq_false (by omega)]
set_option maxHeartbeats 1000000 in
set_option maxRecDepth 100000 in
theorem byNumberU_any (f : FuncId) (caps : Array Value) (w : World) :
    Calls Tryd.prog 105 #[.func (.func f) #[] caps] w fun e w' => e = .returned (.func (.func 130) #[] #[.pointer (some ⟨w.heap.size, 0, none⟩)]) ∧ w' = w.alloc (.cells #[.func (.func f) #[] caps] 127) := by
  have hmf : ∀ (fn : Fn) (first cap : Array Value) (w : World), (Instr.makeFunc fn first cap).run Tryd.prog w = .ok (.func fn first cap) w := fun _ _ _ _ => rfl
  go_enter Tryd.func105, Tryd.ntmps105
  go_wp2_with fail
  go_ret
  exact ⟨rfl, rfl⟩
set_option maxHeartbeats 2000000 in
set_option maxRecDepth 100000 in
theorem byNumU_any (a b b1 : Nat) (f : FuncId) (caps : Array Value) (L : List Nat) (F : Nat → Int) (w : World) (h1 : w.cell? ⟨b1, 0, none⟩ = some (.func (.func f) #[] caps)) (h : FnN w f caps L F) (ha : a ∈ L) (hb : b ∈ L) :
    Calls Tryd.prog 130 #[.int .u64 (a : Int), .int .u64 (b : Int), .pointer (some ⟨b1, 0, none⟩)] w fun e w' => e = .returned (.int .i64 (cmpI (F a) (F b))) ∧ Below w.heap.size w w' := by
  have hent := h.enter
  have HF := Lib.hid h.call
  have HA := Lib.hid ha
  have HB := Lib.hid hb
  clear h ha hb
  go_enter Tryd.func130, Tryd.ntmps130
  go_wp2_with fail
  refine wp_region_held_drew (S := (fun w' : World => w'.cell? ⟨b1, 0, none⟩ = some (.func (.func f) #[] caps))) (by kernel_rfl) (by (try dsimp only); simp [*]) (fun hHeld => ?_)
  change wpAnyH _ _ _ _ _ _ #[false, false, false, false, false, false, false, false] _ _
  refine wpAnyH_take (i := 0) (oi := ⟨some 6, _, _, _, _, _⟩) (v := ?_) rfl (by kernel_rfl) (by kernel_rfl) (by kernel_rfl) (fun _ _ _ h => h) (Or.inl ⟨by rfl, ?_⟩) (by assumption) ?_
  rotate_left
  · (intro w hSw; (try dsimp only at hSw); go_simp; (try (with_reducible rfl)))
  try simp only [Act.put, List.setIfInBounds_toArray, List.set_cons_zero, List.set_cons_succ]
  refine wpAnyH_take (i := 1) (oi := ⟨some 7, _, _, _, _, _⟩) (v := ?_) rfl (by kernel_rfl) (by kernel_rfl) (by kernel_rfl) (fun _ _ _ h => h) (Or.inl ⟨by rfl, ?_⟩) (by assumption) ?_
  rotate_left
  · (intro w hSw; (try dsimp only at hSw); go_simp; (try (with_reducible rfl)))
  try simp only [Act.put, List.setIfInBounds_toArray, List.set_cons_zero, List.set_cons_succ]
  refine wpAnyH_take (i := 3) (oi := ⟨some 9, _, _, _, _, _⟩) (v := ?_) rfl (by kernel_rfl) (by kernel_rfl) (by kernel_rfl) (fun _ _ _ h => h) (Or.inl ⟨by rfl, ?_⟩) (by assumption) ?_
  rotate_left
  · (intro w hSw; (try dsimp only at hSw); go_simp; (try (with_reducible rfl)))
  try simp only [Act.put, List.setIfInBounds_toArray, List.set_cons_zero, List.set_cons_succ]
  refine wpAnyH_take (i := 4) (oi := ⟨some 10, _, _, _, _, _⟩) (v := ?_) rfl (by kernel_rfl) (by kernel_rfl) (by kernel_rfl) (fun _ _ _ h => h) (Or.inl ⟨by rfl, ?_⟩) (by assumption) ?_
  rotate_left
  · (intro w hSw; (try dsimp only at hSw); go_simp; (try (with_reducible rfl)))
  try simp only [Act.put, List.setIfInBounds_toArray, List.set_cons_zero, List.set_cons_succ]
  refine wpAnyH_ready (rs := [2]) (by kernel_rfl) (by simp) ?_
  refine AllReadyH.cons (o := ⟨some 8, _, _, _, _, _⟩) rfl (fun K hK => ?_) AllReadyH.nil
  go_simp
  (with_reducible refine (HF.out w.drew (Below.refl _ _).drew a HA.out).mono ?_); rintro e w3 ⟨rfl, b3⟩; have d3 : Below w.heap.size w w3 := btrans (Below.refl _ _).drew b3; have k3 := nearv.cell_keep h1 d3
  go_wp2_with fail
  refine hK.out _ _ (by (try dsimp only); simp [*]) (fun hHeld => ?_)
  clear hK K
  try simp only [List.setIfInBounds_toArray, List.set_cons_zero, List.set_cons_succ]
  refine wpAnyH_ready (rs := [5]) (by kernel_rfl) (by simp) ?_
  refine AllReadyH.cons (o := ⟨some 11, _, _, _, _, _⟩) rfl (fun K hK => ?_) AllReadyH.nil
  go_simp
  (with_reducible refine (HF.out w3 d3 b HB.out).mono ?_); rintro e w4 ⟨rfl, b4⟩; have d4 : Below w.heap.size w w4 := btrans d3 b4; have k4 := nearv.cell_keep h1 d4
  go_wp2_with fail
  refine hK.out _ _ (by (try dsimp only); simp [*]) (fun hHeld => ?_)
  clear hK K
  try simp only [List.setIfInBounds_toArray, List.set_cons_zero, List.set_cons_succ]
  refine wpAnyH_ready (rs := [6]) (by kernel_rfl) (by simp) ?_
  refine AllReadyH.cons (o := ⟨some 12, _, _, _, _, _⟩) rfl (fun K hK => ?_) AllReadyH.nil
  go_simp
  (with_reducible refine (compare_any (F a) (F b) w4).mono ?_); rintro e w5 ⟨rfl, rfl⟩
  go_wp2_with fail
  refine hK.out _ _ (by (try dsimp only); simp [*]) (fun hHeld => ?_)
  clear hK K
  try simp only [List.setIfInBounds_toArray, List.set_cons_zero, List.set_cons_succ]
  refine wpAnyH_take (i := 7) (oi := ⟨some 5, _, _, _, _, _⟩) (v := ?_) rfl (by kernel_rfl) (by kernel_rfl) (by kernel_rfl) (fun _ _ _ h => h) (Or.inl ⟨by rfl, ?_⟩) (by assumption) ?_
  rotate_left
  · (intro w hSw; (try dsimp only at hSw); go_simp; (try (with_reducible rfl)))
  try simp only [Act.put, List.setIfInBounds_toArray, List.set_cons_zero, List.set_cons_succ]
  refine wpAnyH_done (by kernel_rfl) ?_ _
  go_wp2_with fail
  go_ret
  exact ⟨rfl, d4⟩
set_option maxHeartbeats 1000000 in
set_option maxRecDepth 100000 in
theorem byNumberI_any (f : FuncId) (caps : Array Value) (w : World) :
    Calls Tryd.prog 52 #[.func (.func f) #[] caps] w fun e w' => e = .returned (.func (.func 101) #[] #[.pointer (some ⟨w.heap.size, 0, none⟩)]) ∧ w' = w.alloc (.cells #[.func (.func f) #[] caps] 81) := by
  have hmf : ∀ (fn : Fn) (first cap : Array Value) (w : World), (Instr.makeFunc fn first cap).run Tryd.prog w = .ok (.func fn first cap) w := fun _ _ _ _ => rfl
  go_enter Tryd.func52, Tryd.ntmps52
  go_wp2_with fail
  go_ret
  exact ⟨rfl, rfl⟩
set_option maxHeartbeats 2000000 in
set_option maxRecDepth 100000 in
theorem byNumI_any (a b : Int) (b1 : Nat) (f : FuncId) (caps : Array Value) (L : List Int) (F : Int → Int) (w : World) (h1 : w.cell? ⟨b1, 0, none⟩ = some (.func (.func f) #[] caps)) (h : FnNI w f caps L F) (ha : a ∈ L) (hb : b ∈ L) :
    Calls Tryd.prog 101 #[.int .i64 a, .int .i64 b, .pointer (some ⟨b1, 0, none⟩)] w fun e w' => e = .returned (.int .i64 (cmpI (F a) (F b))) ∧ Below w.heap.size w w' := by
  have hent := h.enter
  have HF := Lib.hid h.call
  have HA := Lib.hid ha
  have HB := Lib.hid hb
  clear h ha hb
  go_enter Tryd.func101, Tryd.ntmps101
  go_wp2_with fail
  refine wp_region_held_drew (S := (fun w' : World => w'.cell? ⟨b1, 0, none⟩ = some (.func (.func f) #[] caps))) (by kernel_rfl) (by (try dsimp only); simp [*]) (fun hHeld => ?_)
  change wpAnyH _ _ _ _ _ _ #[false, false, false, false, false, false, false, false] _ _
  refine wpAnyH_take (i := 0) (oi := ⟨some 6, _, _, _, _, _⟩) (v := ?_) rfl (by kernel_rfl) (by kernel_rfl) (by kernel_rfl) (fun _ _ _ h => h) (Or.inl ⟨by rfl, ?_⟩) (by assumption) ?_
  rotate_left
  · (intro w hSw; (try dsimp only at hSw); go_simp; (try (with_reducible rfl)))
  try simp only [Act.put, List.setIfInBounds_toArray, List.set_cons_zero, List.set_cons_succ]
  refine wpAnyH_take (i := 1) (oi := ⟨some 7, _, _, _, _, _⟩) (v := ?_) rfl (by kernel_rfl) (by kernel_rfl) (by kernel_rfl) (fun _ _ _ h => h) (Or.inl ⟨by rfl, ?_⟩) (by assumption) ?_
  rotate_left
  · (intro w hSw; (try dsimp only at hSw); go_simp; (try (with_reducible rfl)))
  try simp only [Act.put, List.setIfInBounds_toArray, List.set_cons_zero, List.set_cons_succ]
  refine wpAnyH_take (i := 3) (oi := ⟨some 9, _, _, _, _, _⟩) (v := ?_) rfl (by kernel_rfl) (by kernel_rfl) (by kernel_rfl) (fun _ _ _ h => h) (Or.inl ⟨by rfl, ?_⟩) (by assumption) ?_
  rotate_left
  · (intro w hSw; (try dsimp only at hSw); go_simp; (try (with_reducible rfl)))
  try simp only [Act.put, List.setIfInBounds_toArray, List.set_cons_zero, List.set_cons_succ]
  refine wpAnyH_take (i := 4) (oi := ⟨some 10, _, _, _, _, _⟩) (v := ?_) rfl (by kernel_rfl) (by kernel_rfl) (by kernel_rfl) (fun _ _ _ h => h) (Or.inl ⟨by rfl, ?_⟩) (by assumption) ?_
  rotate_left
  · (intro w hSw; (try dsimp only at hSw); go_simp; (try (with_reducible rfl)))
  try simp only [Act.put, List.setIfInBounds_toArray, List.set_cons_zero, List.set_cons_succ]
  refine wpAnyH_ready (rs := [2]) (by kernel_rfl) (by simp) ?_
  refine AllReadyH.cons (o := ⟨some 8, _, _, _, _, _⟩) rfl (fun K hK => ?_) AllReadyH.nil
  go_simp
  (with_reducible refine (HF.out w.drew (Below.refl _ _).drew a HA.out).mono ?_); rintro e w3 ⟨rfl, b3⟩; have d3 : Below w.heap.size w w3 := btrans (Below.refl _ _).drew b3; have k3 := nearv.cell_keep h1 d3
  go_wp2_with fail
  refine hK.out _ _ (by (try dsimp only); simp [*]) (fun hHeld => ?_)
  clear hK K
  try simp only [List.setIfInBounds_toArray, List.set_cons_zero, List.set_cons_succ]
  refine wpAnyH_ready (rs := [5]) (by kernel_rfl) (by simp) ?_
  refine AllReadyH.cons (o := ⟨some 11, _, _, _, _, _⟩) rfl (fun K hK => ?_) AllReadyH.nil
  go_simp
  (with_reducible refine (HF.out w3 d3 b HB.out).mono ?_); rintro e w4 ⟨rfl, b4⟩; have d4 : Below w.heap.size w w4 := btrans d3 b4; have k4 := nearv.cell_keep h1 d4
  go_wp2_with fail
  refine hK.out _ _ (by (try dsimp only); simp [*]) (fun hHeld => ?_)
  clear hK K
  try simp only [List.setIfInBounds_toArray, List.set_cons_zero, List.set_cons_succ]
  refine wpAnyH_ready (rs := [6]) (by kernel_rfl) (by simp) ?_
  refine AllReadyH.cons (o := ⟨some 12, _, _, _, _, _⟩) rfl (fun K hK => ?_) AllReadyH.nil
  go_simp
  (with_reducible refine (compare_any (F a) (F b) w4).mono ?_); rintro e w5 ⟨rfl, rfl⟩
  go_wp2_with fail
  refine hK.out _ _ (by (try dsimp only); simp [*]) (fun hHeld => ?_)
  clear hK K
  try simp only [List.setIfInBounds_toArray, List.set_cons_zero, List.set_cons_succ]
  refine wpAnyH_take (i := 7) (oi := ⟨some 5, _, _, _, _, _⟩) (v := ?_) rfl (by kernel_rfl) (by kernel_rfl) (by kernel_rfl) (fun _ _ _ h => h) (Or.inl ⟨by rfl, ?_⟩) (by assumption) ?_
  rotate_left
  · (intro w hSw; (try dsimp only at hSw); go_simp; (try (with_reducible rfl)))
  try simp only [Act.put, List.setIfInBounds_toArray, List.set_cons_zero, List.set_cons_succ]
  refine wpAnyH_done (by kernel_rfl) ?_ _
  go_wp2_with fail
  go_ret
  exact ⟨rfl, d4⟩
set_option maxHeartbeats 4000000 in
set_option maxRecDepth 100000 in
theorem maxFuncU_any (v : Value) (L : List Nat) (f : FuncId) (caps : Array Value) (F : Nat → Int) (w : World) (hv : Nums w v L) (hl : L.length ≤ 1048576) (h0 : 0 < L.length) (h : FnC w f caps L F) :
    Calls Tryd.prog 104 #[v, .func (.func f) #[] caps] w fun e w' => e = .returned (.int .u64 ((pkF (upR F) L : Nat) : Int)) ∧ Below w.heap.size w w' := by
  obtain ⟨A, c, rfl, hc⟩ := hv.form
  have hent := h.enter
  have HF := Lib.hid h.call
  have HV := Lib.hid hv
  obtain ⟨y, hy⟩ : ∃ y, L[0]? = some y := ⟨_, List.getElem?_eq_getElem h0⟩
  obtain ⟨g0, o0, hA0, c0⟩ := hc 0 y hy
  subst hA0
  have HP1 := Lib.hid (pk_one (r := upR F) hy)
  have HPA := Lib.hid (pk_all (upR F) L)
  have HPS := Lib.hid (fun (k : Nat) (y : Nat) (hk : 0 < k) (h : L[k]? = some y) => pk_succ (r := upR F) hk h)
  have HPM := Lib.hid (fun (k : Nat) (h1 : 0 < k) (h2 : k ≤ L.length) => (pk_up (f := F) (L := L) k h1 h2).1)
  have HB0 : Hid (Below w.heap.size w w) := Below.refl _ _
  have hlt0 : ¬ ((L.length : Int) < 1) := by omega
  have hlt1 : decide (L.length < 1) = false := decide_eq_false (by omega)
  have hgt0 : (0 : Int) < (L.length : Int) := by omega
  rw [Nat.add_zero] at c0
  clear h hv hc hy
  go_enter Tryd.func104, Tryd.ntmps104
  go_wp2_with fail
  go_loopg [5, 6] (L.length - 1) (fun g mv iv wr => ∃ k : Nat, k + g = L.length ∧ 0 < k ∧ iv = .int .i64 (k : Int) ∧ mv = .int .u64 ((pkF (upR F) (L.take k) : Nat) : Int) ∧ Below w.heap.size w wr)
  case atStart => exact ⟨1, by omega, by omega, rfl, by rw [HP1.out], HB0.out⟩
  case round =>
    clear HB0 HP1 c0 hlt0 hlt1 hgt0
    obtain ⟨k, hkg, hk0, rfl, rfl, hB⟩ := hrel
    have HB := Lib.hid hB
    cases gk with
    | zero =>
      obtain rfl : k = L.length := by omega
      rw [HPA.out]
      clear hB
      go_wp2_with fail
      go_ret
      exact ⟨rfl, HB.out⟩
    | succ g2 =>
      have hlt : k < L.length := by omega
      have hlt' : (k : Int) < (L.length : Int) := by omega
      obtain ⟨x, hx⟩ : ∃ x, L[k]? = some x := ⟨_, List.getElem?_eq_getElem hlt⟩
      have hps := HPS.out k x hk0 hx
      have hpm := HPM.out k hk0 (by omega)
      obtain ⟨_, _, hf2, hcc⟩ := (show Nums wr (.slice (some ⟨g0, o0, none⟩) L.length c) L from HV.out.below hB).form
      cases hf2
      obtain ⟨g5, o5, hA5, c5⟩ := hcc k x hx
      cases hA5
      have HC := Lib.hid (fun (W : World) (hW : Below w.heap.size w W) => HF.out W hW x (List.mem_of_getElem? hx) _ hpm)
      have hcu := cmp_up (a := F x) (b := F (pkF (upR F) (L.take k)))
      unfold upR at hps
      cases hd : decide (F (pkF (upR F) (L.take k)) < F x) with
      | true =>
        rw [hd] at hcu
        unfold upR at hd
        rw [hd, if_pos rfl] at hps
        have HN := Lib.hid hps
        have hq := of_decide_eq_true hcu
        have HKD := Lib.hid (fun (W : World) (hW : Below wr.heap.size wr W) => nearv.cell_keep c5 hW)
        clear hB hx hcc hd hps
        generalize pkF (upR F) (L.take k) = M at *
        generalize cmpI (F x) (F M) = cv at *
        go_wp2_with fail
        refine (HC.out _ HB.out).mono ?_
        rintro e w2 ⟨rfl, b2⟩
        have HB2 := Lib.hid (btrans HB.out b2)
        have c6 := HKD.out _ b2
        clear c5 b2
        go_wp2_with fail
        go_roundg g2
        case measure => omega
        case rel => exact ⟨k + 1, by omega, by omega, by go_num, by rw [show pkF (upR F) (L.take (k + 1)) = x from HN.out], HB2.out⟩
      | false =>
        rw [hd] at hcu
        unfold upR at hd
        rw [hd, if_neg (by decide)] at hps
        have HN := Lib.hid hps
        have hq := of_decide_eq_false hcu
        clear hB hx hcc hd hps
        have HM : Hid (pkF (upR F) (L.take (k + 1)) = pkF (upR F) (L.take k)) := HN.out
        generalize pkF (upR F) (L.take k) = M at *
        generalize cmpI (F x) (F M) = cv at *
        go_wp2_with fail
        refine (HC.out _ HB.out).mono ?_
        rintro e w2 ⟨rfl, b2⟩
        have HB2 := Lib.hid (btrans HB.out b2)
        clear c5 b2
        go_wp2_with fail
        go_roundg g2
        case measure => omega
        case rel => exact ⟨k + 1, by omega, by omega, by go_num, by rw [HM.out], HB2.out⟩
set_option maxHeartbeats 4000000 in
set_option maxRecDepth 100000 in
theorem minFuncI_any (v : Value) (L : List Int) (f : FuncId) (caps : Array Value) (F : Int → Int) (w : World) (hv : Ints w v L) (hl : L.length ≤ 1048576) (h0 : 0 < L.length) (h : FnCI w f caps L F) :
    Calls Tryd.prog 51 #[v, .func (.func f) #[] caps] w fun e w' => e = .returned (.int .i64 (pkF (dnR F) L)) ∧ Below w.heap.size w w' := by
  obtain ⟨A, c, rfl, hc⟩ := hv.form
  have hent := h.enter
  have HF := Lib.hid h.call
  have HV := Lib.hid hv
  obtain ⟨y, hy⟩ : ∃ y, L[0]? = some y := ⟨_, List.getElem?_eq_getElem h0⟩
  obtain ⟨g0, o0, hA0, c0⟩ := hc 0 y hy
  subst hA0
  have HP1 := Lib.hid (pk_one (r := dnR F) hy)
  have HPA := Lib.hid (pk_all (dnR F) L)
  have HPS := Lib.hid (fun (k : Nat) (y : Int) (hk : 0 < k) (h : L[k]? = some y) => pk_succ (r := dnR F) hk h)
  have HPM := Lib.hid (fun (k : Nat) (h1 : 0 < k) (h2 : k ≤ L.length) => (by obtain ⟨i, _, h3, _⟩ := pk_dn (f := F) (L := L) k h1 h2; exact List.mem_of_getElem? h3 : pkF (dnR F) (L.take k) ∈ L))
  have HB0 : Hid (Below w.heap.size w w) := Below.refl _ _
  have hlt0 : ¬ ((L.length : Int) < 1) := by omega
  have hlt1 : decide (L.length < 1) = false := decide_eq_false (by omega)
  have hgt0 : (0 : Int) < (L.length : Int) := by omega
  rw [Nat.add_zero] at c0
  clear h hv hc hy
  go_enter Tryd.func51, Tryd.ntmps51
  go_wp2_with fail
  go_loopg [5, 6] (L.length - 1) (fun g mv iv wr => ∃ k : Nat, k + g = L.length ∧ 0 < k ∧ iv = .int .i64 (k : Int) ∧ mv = .int .i64 (pkF (dnR F) (L.take k)) ∧ Below w.heap.size w wr)
  case atStart => exact ⟨1, by omega, by omega, rfl, by rw [HP1.out], HB0.out⟩
  case round =>
    clear HB0 HP1 c0 hlt0 hlt1 hgt0
    obtain ⟨k, hkg, hk0, rfl, rfl, hB⟩ := hrel
    have HB := Lib.hid hB
    cases gk with
    | zero =>
      obtain rfl : k = L.length := by omega
      rw [HPA.out]
      clear hB
      go_wp2_with fail
      go_ret
      exact ⟨rfl, HB.out⟩
    | succ g2 =>
      have hlt : k < L.length := by omega
      have hlt' : (k : Int) < (L.length : Int) := by omega
      obtain ⟨x, hx⟩ : ∃ x, L[k]? = some x := ⟨_, List.getElem?_eq_getElem hlt⟩
      have hps := HPS.out k x hk0 hx
      have hpm := HPM.out k hk0 (by omega)
      obtain ⟨_, _, hf2, hcc⟩ := (show Ints wr (.slice (some ⟨g0, o0, none⟩) L.length c) L from HV.out.below hB).form
      cases hf2
      obtain ⟨g5, o5, hA5, c5⟩ := hcc k x hx
      cases hA5
      have HC := Lib.hid (fun (W : World) (hW : Below w.heap.size w W) => HF.out W hW x (List.mem_of_getElem? hx) _ hpm)
      have hcu := cmp_dn (a := F x) (b := F (pkF (dnR F) (L.take k)))
      unfold dnR at hps
      cases hd : decide (F x < F (pkF (dnR F) (L.take k))) with
      | true =>
        rw [hd] at hcu
        unfold dnR at hd
        rw [hd, if_pos rfl] at hps
        have HN := Lib.hid hps
        have hq := of_decide_eq_true hcu
        have HKD := Lib.hid (fun (W : World) (hW : Below wr.heap.size wr W) => nearv.cell_keep c5 hW)
        clear hB hx hcc hd hps
        generalize pkF (dnR F) (L.take k) = M at *
        generalize cmpI (F x) (F M) = cv at *
        go_wp2_with fail
        refine (HC.out _ HB.out).mono ?_
        rintro e w2 ⟨rfl, b2⟩
        have HB2 := Lib.hid (btrans HB.out b2)
        have c6 := HKD.out _ b2
        clear c5 b2
        go_wp2_with fail
        go_roundg g2
        case measure => omega
        case rel => exact ⟨k + 1, by omega, by omega, by go_num, by rw [show pkF (dnR F) (L.take (k + 1)) = x from HN.out], HB2.out⟩
      | false =>
        rw [hd] at hcu
        unfold dnR at hd
        rw [hd, if_neg (by decide)] at hps
        have HN := Lib.hid hps
        have hq := of_decide_eq_false hcu
        clear hB hx hcc hd hps
        have HM : Hid (pkF (dnR F) (L.take (k + 1)) = pkF (dnR F) (L.take k)) := HN.out
        generalize pkF (dnR F) (L.take k) = M at *
        generalize cmpI (F x) (F M) = cv at *
        go_wp2_with fail
        refine (HC.out _ HB.out).mono ?_
        rintro e w2 ⟨rfl, b2⟩
        have HB2 := Lib.hid (btrans HB.out b2)
        clear c5 b2
        go_wp2_with fail
        go_roundg g2
        case measure => omega
        case rel => exact ⟨k + 1, by omega, by omega, by go_num, by rw [HM.out], HB2.out⟩
end Go.Proofs.YtdhbaegkogklgaaDoor.ups
