/- The contract of slices.Repeat of one number. -/
import Derived.Handy
import Derived.Test.YtdhbaegkogklgaaDoorK02
import Derived.Laws.CopyOwn
import Derived.Deep.RegionLaw
import Derived.Test.YtdhbaegkogklgaaDoorK07
import Derived.Test.YtdhbaegkogklgaaDoorK03
import Derived.Test.YtdhbaegkogklgaaDoorK04
import Derived.Laws.BitsAllLaws
import Derived.StillTailTactics
import Derived.Deep.DeepCutAuto
import Derived.Deep.RegionHeld3
import Derived.Deep.QuietTactic
import Derived.WalkMore
namespace Go.Proofs.YtdhbaegkogklgaaDoor.reps
open Go.RowKit P2 words ints fns
set_option linter.unusedVariables false

end Go.Proofs.YtdhbaegkogklgaaDoor.reps

/- The contract of the model's l2Dist. -/
namespace Go.Proofs.YtdhbaegkogklgaaDoor.dists
open Go.RowKit P2 words edges ints owns good near adjs fns rets nearv sets grid reps
set_option linter.unusedVariables false

def J1 (l : List Ed) (a b : Nat) : Bool := adj l a b
noncomputable def distTo (n : Nat) (l : List Ed) (k : Nat) : List (List Int) := (List.range k).map fun x => dist n (J1 l) x
noncomputable def distG (n : Nat) (l : List Ed) : List (List Int) := distTo n l n
theorem distTo_len (n : Nat) (l : List Ed) (k : Nat) : (distTo n l k).length = k := by simp [distTo]
theorem distTo_succ (n : Nat) (l : List Ed) (k : Nat) : distTo n l (k + 1) = distTo n l k ++ [dist n (J1 l) k] := by simp [distTo, List.range_succ]
theorem cells_set1 (D : List Int) (y : Nat) (u : Int) : (cellsI D).set y (.int .i64 u) = cellsI (D.set y u) := by simp [cellsI, List.map_set]
theorem rep_succ (y : Nat) (x : Int) : cellsI (List.replicate (y + 1) x) = cellsI (List.replicate y x) ++ [.int .i64 x] := by simp [cellsI, List.replicate_succ']

/-- the row in the making -/
def RowH (wr wi : World) (n gr c5 : Nat) (D : List Int) : Prop := D.length = n ∧ wi.ownsRow wr.heap.size 3 1 (.slice (some ⟨gr, 0, none⟩) n c5) n (cellsI D) ∧ Below wr.heap.size wr wi

end Go.Proofs.YtdhbaegkogklgaaDoor.dists

/- Balls as sets of bits, and far sets: mathematics. -/
namespace Go.Proofs.YtdhbaegkogklgaaDoor.ups
open Go.RowKit P2 words edges ints good adjs fns sets rets covs bitsI bags
set_option linter.unusedVariables false

/-- the nodes that are at most r steps away -/
def bN (l : List Ed) (n x : Nat) : Nat → Nat
  | 0 => 2 ^ x
  | r + 1 => arN l n (bN l n x r)
def Wk (l : List Ed) (n : Nat) : Nat → Nat → Nat → Prop
  | 0, x, y => x = y
  | r + 1, x, y => ∃ z, z < n ∧ Wk l n r x z ∧ (z = y ∨ adj l z y = true)
theorem bN_iff {l : List Ed} {n x : Nat} (hx : x < n) : ∀ {r y : Nat}, (bN l n x r).testBit y = true ↔ y < n ∧ Wk l n r x y
  | 0, y => by
    unfold bN Wk
    rw [Nat.testBit_two_pow, decide_eq_true_iff]
    exact ⟨fun h => ⟨by omega, h⟩, fun h => h.2⟩
  | r + 1, y => by
    unfold bN Wk arN
    rw [numOf_bit, Bool.and_eq_true, decide_eq_true_iff, arB_iff]
    constructor
    · rintro ⟨h1, z, h2, h3, h4⟩
      exact ⟨h1, z, h2, ((bN_iff hx).1 h3).2, h4⟩
    · rintro ⟨h1, z, h2, h3, h4⟩
      exact ⟨h1, z, h2, (bN_iff hx).2 ⟨h2, h3⟩, h4⟩
theorem Wk.node {l : List Ed} {n : Nat} (hg : P2.Good (n : Int) l) {x : Nat} (hx : x < n) : ∀ {r y : Nat}, Wk l n r x y → y < n
  | 0, y, h => by unfold Wk at h; omega
  | r + 1, y, ⟨z, h1, h2, h3⟩ => by
    rcases h3 with rfl | h3
    · exact h1
    · have := (adj_node hg h3).2; omega
theorem Wk.front {l : List Ed} {n : Nat} (hg : P2.Good (n : Int) l) : ∀ {r x y : Nat}, x < n → (∃ z, z < n ∧ (x = z ∨ adj l x z = true) ∧ Wk l n r z y) → Wk l n (r + 1) x y
  | 0, x, y, hx, ⟨z, h1, h2, h3⟩ => by
    unfold Wk at h3
    subst h3
    exact ⟨x, hx, rfl, h2⟩
  | r + 1, x, y, hx, ⟨z, h1, h2, h3⟩ => by
    obtain ⟨u, h4, h5, h6⟩ := h3
    exact ⟨u, h4, Wk.front hg hx ⟨z, h1, h2, h5⟩, h6⟩
theorem Wk.symm {l : List Ed} {n : Nat} (hg : P2.Good (n : Int) l) : ∀ {r x y : Nat}, x < n → Wk l n r x y → Wk l n r y x
  | 0, x, y, _, h => Eq.symm (show x = y from h)
  | r + 1, x, y, hx, h => by
    have hy := Wk.node hg hx h
    obtain ⟨z, h1, h2, h3⟩ := h
    refine Wk.front hg hy ⟨z, h1, ?_, Wk.symm hg hx h2⟩
    rcases h3 with rfl | h3
    · exact .inl rfl
    · exact .inr (by rw [adj_comm]; exact h3)
/-- the balls are those of the distances -/
theorem wk_dist {l : List Ed} {n x : Nat} (hx : x < n) : ∀ {r y : Nat}, y < n → (Wk l n r x y ↔ 0 ≤ fn (dist n (J2 l) x) y ∧ fn (dist n (J2 l) x) y ≤ (r : Int))
  | 0, y, hy => by
    have hd := (dist_spec (n := n) (J2 l) hx).2
    unfold Wk
    constructor
    · rintro rfl
      rw [hd.at0]; omega
    · intro h
      exact (hd.only y hy (by omega)).symm
  | r + 1, y, hy => by
    have hd := (dist_spec (n := n) (J2 l) hx).2
    unfold Wk
    constructor
    · rintro ⟨z, h1, h2, h3⟩
      have h4 := (wk_dist hx h1).1 h2
      rcases h3 with rfl | h3
      · omega
      · have := hd.step z y h1 hy h4.1 h3; omega
    · intro h
      by_cases e : fn (dist n (J2 l) x) y ≤ (r : Int)
      · exact ⟨y, hy, (wk_dist hx hy).2 ⟨h.1, e⟩, .inl rfl⟩
      · obtain ⟨z, h1, h2, h3⟩ := hd.back y hy (by omega)
        exact ⟨z, h1, (wk_dist hx h1).2 (by omega), .inr h3⟩
theorem bN_lt (l : List Ed) {n x : Nat} (hx : x < n) (hn : n ≤ 8) (r : Nat) : bN l n x r < 256 := by
  cases r with
  | zero =>
    have h1 := Nat.pow_lt_pow_right (show 1 < 2 by decide) (show x < 8 by omega)
    have h2 : 2 ^ 8 = 256 := by decide
    unfold bN; omega
  | succ r => exact numOf_lt _ hn
def balN (l : List Ed) (n r : Nat) : List Nat := (List.range n).map fun x => bN l n x r
theorem bal_len (l : List Ed) (n r : Nat) : (balN l n r).length = n := by simp [balN]
theorem bal_at {l : List Ed} {n r k : Nat} (h : k < n) : (balN l n r)[k]? = some (bN l n k r) := by simp [balN, h]
/-- the first k balls, then what stands there, then noughts -/
def balT (l : List Ed) (n r k : Nat) : List Nat := (List.range k).map (fun x => bN l n x r) ++ List.replicate (n - k) 0
theorem balT_len {l : List Ed} {n r k : Nat} (h : k ≤ n) : (balT l n r k).length = n := by simp [balT]; omega
theorem balT_all (l : List Ed) (n r : Nat) : balT l n r n = balN l n r := by simp [balT, balN]
theorem balT_set {l : List Ed} {n r k : Nat} (h : k < n) (a : Nat) : (balT l n r k).set k (bN l n k r) = balT l n r (k + 1) := by
  unfold balT
  rw [show n - k = (n - (k + 1)) + 1 from by omega, List.replicate_succ, List.set_append_right _ _ (by simp), List.length_map, List.length_range, Nat.sub_self, List.set_cons_zero, List.range_succ, List.map_append, List.append_assoc]
  rfl

/-- no node of a set has another one of them in its ball -/
def farB (l : List Ed) (n r c : Nat) : Bool := !(ndN c).any fun x => !(bN l n x.toNat r &&& c == 2 ^ x.toNat)
def FarP (l : List Ed) (n r c : Nat) : Prop := ∀ x y, x < n → y < x → c.testBit x = true → c.testBit y = true → ¬ Wk l n r x y
theorem Wk.self {l : List Ed} {n : Nat} {x : Nat} (hx : x < n) : ∀ r, Wk l n r x x
  | 0 => rfl
  | r + 1 => ⟨x, hx, Wk.self hx r, .inl rfl⟩
theorem far_iff {l : List Ed} {n r c : Nat} (hg : P2.Good (n : Int) l) (hn : n ≤ 8) (hc : c < 2 ^ n) : farB l n r c = true ↔ FarP l n r c := by
  unfold farB
  rw [Bool.not_eq_true', List.any_eq_false, ← nd_bits hn hc]
  have hbit : ∀ x, c.testBit x = true → x < n := fun x hx => by
    by_cases e : x < n
    · exact e
    · rw [Nat.testBit_lt_two_pow (Nat.lt_of_lt_of_le hc (Nat.pow_le_pow_right (by decide) (by omega)))] at hx
      cases hx
  constructor
  · intro h x y hx hyx hcx hcy hw
    have h1 := h (x : Int) (mem_nw.2 ⟨x, hx, hcx, rfl⟩)
    rw [Int.toNat_natCast] at h1
    have h2 : bN l n x r &&& c = 2 ^ x := by simpa using h1
    have h3 : (bN l n x r &&& c).testBit y = true := by
      rw [Nat.testBit_and, hcy, (bN_iff hx).2 ⟨by omega, hw⟩]; rfl
    rw [h2, Nat.testBit_two_pow, decide_eq_true_iff] at h3
    omega
  · intro h x hx
    obtain ⟨j, hj, hcj, rfl⟩ := mem_nw.1 hx
    have hcj : c.testBit j = true := hcj
    rw [Int.toNat_natCast]
    have : bN l n j r &&& c = 2 ^ j := by
      apply Nat.eq_of_testBit_eq
      intro i
      rw [Nat.testBit_and, Nat.testBit_two_pow, Bool.eq_iff_iff, Bool.and_eq_true, decide_eq_true_iff]
      constructor
      · rintro ⟨h1, h2⟩
        have hi := hbit i h2
        have hw := ((bN_iff hj).1 h1).2
        rcases Nat.lt_trichotomy i j with e | e | e
        · exact absurd hw (h j i hj e hcj h2)
        · exact e.symm
        · exact absurd (Wk.symm hg hj hw) (h i j hi e h2 hcj)
      · rintro rfl
        exact ⟨(bN_iff hj).2 ⟨hj, Wk.self hj r⟩, hcj⟩
    simp [this]
theorem far_zero (l : List Ed) (n r : Nat) : farB l n r 0 = true := by
  unfold farB
  have : ndN 0 = [] := by decide
  rw [this]; rfl
noncomputable def lfN (l : List Ed) (n k : Nat) : Nat := bestC (farB l n (2 * k - 2)) rkMax n
end Go.Proofs.YtdhbaegkogklgaaDoor.ups

/- Spreads: mathematics. -/
namespace Go.Proofs.YtdhbaegkogklgaaDoor.ups
open Go.RowKit P2 words edges ints good adjs fns sets rets covs bitsI bags
set_option linter.unusedVariables false

theorem ones_mono {a b : Nat} (h : ∀ k, k < 8 → bitB a k = true → bitB b k = true) : onesN a ≤ onesN b := by
  unfold onesN nw
  rw [List.length_map, List.length_map, ← List.countP_eq_length_filter, ← List.countP_eq_length_filter]
  exact List.countP_mono_left fun k hk => h k (List.mem_range.1 hk)
theorem ones_put' : ∀ d : Fin 256, ∀ x : Fin 8, d.1.testBit x.1 = false → onesN (d.1 ||| 2 ^ x.1) = onesN d.1 + 1 := by decide +kernel
theorem ones_put {d x : Nat} (hd : d < 256) (hx : x < 8) (h : d.testBit x = false) : onesN (d ||| 2 ^ x) = onesN d + 1 := ones_put' ⟨d, hd⟩ ⟨x, hx⟩ h
theorem put_bit (d x k : Nat) : (d ||| 2 ^ x).testBit k = (d.testBit k || decide (x = k)) := by rw [Nat.testBit_or, Nat.testBit_two_pow]
theorem put_same {d x : Nat} (h : d.testBit x = true) : d ||| 2 ^ x = d := by
  apply Nat.eq_of_testBit_eq
  intro k
  rw [put_bit]
  by_cases e : x = k
  · subst e; simp [h]
  · simp [e]
/-- how many nodes of a set are in the closed neighborhood of a node -/
def insN (l : List Ed) (c x : Nat) : Nat := onesN (cloB l x &&& c)
theorem ins_mono {l : List Ed} {c d : Nat} (h : ∀ k, c.testBit k = true → d.testBit k = true) (x : Nat) : insN l c x ≤ insN l d x :=
  ones_mono fun k _ hk => by
    unfold bitB at hk ⊢
    rw [Nat.testBit_and, Bool.and_eq_true] at hk ⊢
    exact ⟨hk.1, h k hk.2⟩
def AddS (n : Nat) (l : List Ed) (r d x : Nat) : Prop := x < n ∧ d.testBit x = false ∧ r ≤ insN l d x
inductive Spr (n : Nat) (l : List Ed) (r c : Nat) : Nat → Prop
  | base : Spr n l r c c
  | step {d x : Nat} : Spr n l r c d → AddS n l r d x → Spr n l r c (d ||| 2 ^ x)
def Stops (n : Nat) (l : List Ed) (r d : Nat) : Prop := ∀ x, ¬ AddS n l r d x
theorem spr_sub {n : Nat} {l : List Ed} {r c d : Nat} (h : Spr n l r c d) : ∀ k, c.testBit k = true → d.testBit k = true := by
  induction h with
  | base => exact fun _ h => h
  | step _ _ ih => exact fun k hk => by rw [put_bit, ih k hk]; rfl
theorem spr_lt {n : Nat} {l : List Ed} {r c d : Nat} (h : Spr n l r c d) (hc : c < 2 ^ n) : d < 2 ^ n := by
  induction h with
  | base => exact hc
  | step _ ha ih => exact Nat.or_lt_two_pow ih (Nat.pow_lt_pow_right (by decide) ha.1)
theorem spr_in {n : Nat} {l : List Ed} {r c d e : Nat} (h : Spr n l r c d) (he : Stops n l r e) (hs : ∀ k, c.testBit k = true → e.testBit k = true) : ∀ k, d.testBit k = true → e.testBit k = true := by
  induction h with
  | base => exact hs
  | @step d x _ ha ih =>
    intro k hk
    rw [put_bit, Bool.or_eq_true, decide_eq_true_iff] at hk
    rcases hk with hk | rfl
    · exact ih k hk
    · cases hb : e.testBit x with
      | true => rfl
      | false => exact absurd ⟨ha.1, hb, Nat.le_trans ha.2.2 (ins_mono ih x)⟩ (he x)
theorem spr_same {n : Nat} {l : List Ed} {r c d e : Nat} (hd : Spr n l r c d) (sd : Stops n l r d) (he : Spr n l r c e) (se : Stops n l r e) : d = e := by
  apply Nat.eq_of_testBit_eq
  intro k
  rw [Bool.eq_iff_iff]
  exact ⟨spr_in hd se (spr_sub he) k, spr_in he sd (spr_sub hd) k⟩
/-- the spread -/
noncomputable def spN (n : Nat) (l : List Ed) (r c : Nat) : Nat := Classical.epsilon fun d => Spr n l r c d ∧ Stops n l r d
theorem spN_is {n : Nat} {l : List Ed} {r c d : Nat} (hd : Spr n l r c d) (sd : Stops n l r d) : spN n l r c = d := by
  have h := Classical.epsilon_spec (p := fun d => Spr n l r c d ∧ Stops n l r d) ⟨d, hd, sd⟩
  exact spr_same h.1 h.2 hd sd
/-- a set has all nodes -/
theorem ones_full : ∀ n : Fin 9, ∀ d : Fin 256, d.1 < 2 ^ n.1 → (onesN d.1 = n.1 ↔ d.1 = 2 ^ n.1 - 1) := by decide +kernel
theorem ones_top : ∀ n : Fin 9, ∀ d : Fin 256, d.1 < 2 ^ n.1 → onesN d.1 ≤ n.1 := by decide +kernel
theorem full_stops {n : Nat} {l : List Ed} {r d : Nat} (h : d = 2 ^ n - 1) : Stops n l r d := fun x hx => by
  have h2 := hx.2.1
  rw [h, Nat.testBit_two_pow_sub_one, decide_eq_false_iff_not] at h2
  exact h2 hx.1
/-- the neighbors of a node that are in a set without it -/
theorem ins_len {n : Nat} {l : List Ed} {d x : Nat} (hg : P2.Good (n : Int) l) (hn : n ≤ 8) (hd : d < 2 ^ n) (hx : d.testBit x = false) : (nw (fun y => bitB d y && adj l (y : Int) (x : Int)) n).length = insN l d x := by
  unfold insN onesN
  rw [nw_congr (q := bitB (cloB l x &&& d)) (n := n) (fun k hk => by
    unfold bitB
    rw [Nat.testBit_and, cloB_bit hg, adj_comm, Bool.and_comm]
    by_cases e : x = k
    · subst e; rw [hx]; simp
    · have : (x == k) = false := by simpa using e
      rw [this, Bool.false_or])]
  rw [nw_more hn fun k h1 _ => ?_]
  unfold bitB
  rw [Nat.testBit_and, Nat.testBit_lt_two_pow (Nat.lt_of_lt_of_le hd (Nat.pow_le_pow_right (by decide) h1)), Bool.and_false]
/-- neighbors of a node of a set that are not in it -/
theorem out_len {n : Nat} {l : List Ed} {d x : Nat} (hg : P2.Good (n : Int) l) (hn : n ≤ 8) (hx : d.testBit x = true) (q : Nat → Bool) (hq : ∀ z, z < n → q z = ((cloB l x).testBit z && !d.testBit z)) : (nw (fun y => adj l (x : Int) (y : Int)) n).length = (nw (fun y => bitB d y && adj l (y : Int) (x : Int)) n).length + onesN (numOf q n) := by
  rw [ones_num _ hn]
  rw [nw_congr (p := q) (q := fun y => !bitB d y && adj l (y : Int) (x : Int)) (fun k hk => by
    rw [hq k hk, cloB_bit hg, adj_comm, Bool.and_comm]
    unfold bitB
    by_cases e : x = k
    · subst e; rw [hx]; simp
    · have : (x == k) = false := by simpa using e
      rw [this, Bool.false_or])]
  unfold nw
  rw [List.length_map, List.length_map, List.length_map, ← List.countP_eq_length_filter, ← List.countP_eq_length_filter, ← List.countP_eq_length_filter]
  have h := List.countP_eq_countP_filter_add (List.range n) (fun y : Nat => adj l (x : Int) (y : Int)) (bitB d)
  rw [h, List.countP_filter, List.countP_filter]
  congr 1
  · congr 1; funext y; rw [adj_comm, Bool.and_comm]
  · congr 1; funext y; rw [adj_comm, Bool.and_comm]
end Go.Proofs.YtdhbaegkogklgaaDoor.ups

/- The contracts of the program's closedAround, connectedIn and bagOf. -/
namespace Go.Proofs.YtdhbaegkogklgaaDoor.bitsI
open Go.RowKit P2 words edges ints good adjs fns sets rets covs bags
set_option linter.unusedVariables false

theorem andNot_num (a : Nat) (p : Nat → Bool) (n : Nat) (ha : a < 18446744073709551616) (hn : n ≤ 8) (q : Nat → Bool) (hq : ∀ z, z < 64 → (a.testBit z && !(decide (z < n) && p z)) = (decide (z < n) && q z)) :
    bits .andNot .u64 (a : Int) (numOf p n : Int) = (numOf q n : Int) := by
  have hb := numOf_lt p hn
  rw [u64_andNot_nat a _ ha (by omega)]
  congr 1
  apply Nat.eq_of_testBit_eq
  intro i
  rw [Nat.testBit_and, show (18446744073709551615 - numOf p n) = 2 ^ 64 - (numOf p n + 1) from by omega, Nat.testBit_two_pow_sub_succ (by omega), numOf_bit, numOf_bit]
  by_cases hi : i < 64
  · rw [← hq i hi]; simp [hi]
  · have h1 : decide (i < 64) = false := decide_eq_false hi
    have h2 : decide (i < n) = false := decide_eq_false (by omega)
    rw [h1, h2]; simp
theorem num_one {n x : Nat} (hx : x < n) : numOf (fun y => decide (y = x)) n = 2 ^ x := by
  apply Nat.eq_of_testBit_eq
  intro i
  rw [numOf_bit, Nat.testBit_two_pow]
  by_cases e : i = x
  · subst e; simp [hx]
  · have h9 : ¬ x = i := fun h => e h.symm
    simp [e, h9]
theorem num_or_one (p : Nat → Bool) {n x : Nat} (hx : x < n) : numOf p n ||| 2 ^ x = numOf (reach.pput p x) n := by
  apply Nat.eq_of_testBit_eq
  intro i
  rw [Nat.testBit_or, numOf_bit, numOf_bit, Nat.testBit_two_pow]
  unfold reach.pput
  by_cases e : i = x
  · subst e; simp [hx]
  · have h9 : ¬ x = i := fun h => e h.symm
    simp [e, h9]
set_option maxHeartbeats 1000000 in
set_option maxRecDepth 100000 in
theorem closedAround_any (n c : Nat) (v : Value) (l : List Ed) (w : World) (h : Nums w v (clos l n)) (hg : P2.Good (n : Int) l) (hn : n ≤ 8) (hc : c < 256) :
    Calls Tryd.prog 137 #[v, .int .u64 (c : Int)] w fun e w' => e = .returned (.int .u64 (arN l n c : Int)) ∧ w = w' := by
  obtain ⟨A, cc, rfl, hcl⟩ := h.form
  have HC := Lib.hid hcl
  have HG := Lib.hid hg
  have hlen := clos_len l n
  rw [hlen]
  clear h hcl hg hlen
  go_enter Tryd.func137, Tryd.ntmps137
  go_wp2_with fail
  go_loop [5, 10] (fun s i => ∃ k : Nat, k ≤ n ∧ i = .int .i64 (k : Int) ∧ s = .int .u64 (arK l c k : Int)) (fun _ i => n - (intOf i).toNat)
  case atStart => exact ⟨0, Nat.zero_le _, rfl, rfl⟩
  case round =>
    obtain ⟨k, hk, rfl, rfl⟩ := hrel
    by_cases hlt : k < n
    · have hlt' : (k : Int) < (n : Int) := by omega
      obtain ⟨g, o, rfl, c0⟩ := HC.out k _ (clos_at hlt)
      have HH := Lib.hid (fun (W : World) => has_any c k W (by omega) (by omega))
      cases hb : c.testBit k with
      | true =>
        have HN := Lib.hid (arK_yes (l := l) hb)
        have HT : Hid (bits .or .u64 (arK l c k : Int) (cloB l k : Int) = ((arK l c k ||| cloB l k : Nat) : Int)) :=
          bits_or_u64_nat _ _ (by have := arK_lt HG.out c (k := k) (by omega); omega) (by have := cloB_lt' HG.out k (by omega); omega)
        rw [hb] at HH
        clear hb
        go_wp2_with fail
        refine (HH.out _).mono ?_
        rintro e w' ⟨rfl, rfl⟩
        go_wp2_with fail
        go_round
        case rel => exact ⟨k + 1, by omega, by go_num, by rw [HN.out, HT.out]⟩
        case measure => simp [intOf]; omega
      | false =>
        have HN := Lib.hid (arK_no (l := l) hb)
        rw [hb] at HH
        clear hb
        go_wp2_with fail
        refine (HH.out _).mono ?_
        rintro e w' ⟨rfl, rfl⟩
        go_wp2_with fail
        go_round
        case rel => exact ⟨k + 1, by omega, by go_num, by rw [HN.out]⟩
        case measure => simp [intOf]; omega
    · obtain rfl : k = n := by omega
      have HE := Lib.hid (arK_all HG.out c)
      go_wp2_with fail
      go_ret
      exact ⟨ret_int (by rw [HE.out]), rfl⟩
set_option maxHeartbeats 1000000 in
set_option maxRecDepth 100000 in
theorem connectedIn_any (n : Nat) (q P : Nat → Bool) (v : Value) (l : List Ed) (w : World) (h : Nums w v (clos l n)) (hg : P2.Good (n : Int) l) (hn : n ≤ 8) (hP : ∀ z, z < n → P z = true → q z = true) :
    Calls Tryd.prog 136 #[v, .int .u64 (numOf q n : Int), .int .u64 (numOf P n : Int)] w fun e w' => e = .returned (.int .u64 (numOf (connB n (J2 l) q P) n : Int)) ∧ w = w' := by
  have HA := Lib.hid (fun p => closedAround_any n (numOf p n) v l w h hg hn (numOf_lt p hn))
  have H0 : Hid (Conn n l q P P) := Conn.first hP
  have hq := numOf_lt q hn
  clear h hg hP
  go_enter Tryd.func136, Tryd.ntmps136
  go_wp2_with fail
  go_loopg [2] n (fun g s wr => ∃ p, s = .int .u64 (numOf p n : Int) ∧ Hid (Conn n l q P p) ∧ n ≤ (nw p n).length + g ∧ wr = w)
  case atStart => exact ⟨P, rfl, H0, by omega, rfl⟩
  case round =>
    clear H0
    obtain ⟨p, rfl, hcn, hmeas, rfl⟩ := hrel
    have hand : bits .and .u64 ((arN l n (numOf p n) : Nat) : Int) ((numOf q n : Nat) : Int) = ((numOf (mored l n q p) n : Nat) : Int) := by
      have h1 : arN l n (numOf p n) < 256 := numOf_lt _ hn
      rw [bits_and_u64_nat _ _ (by omega) (by omega)]
      unfold arN
      rw [num_and]; rfl
    have HAP := Lib.hid (HA.out p)
    by_cases he : numOf (mored l n q p) n = numOf p n
    · have HE := Lib.hid (hcn.out.done he)
      have d0 : (numOf (mored l n q p) n == numOf p n) = true := by simpa using he
      have d1 : (((numOf (mored l n q p) n : Nat) : Int) == ((numOf p n : Nat) : Int)) = true := by rw [he]; simp
      have HEE := Lib.hid he
      clear he hcn
      generalize arN l n (numOf p n) = a at *
      generalize numOf (mored l n q p) n = m at *
      go_wp2_with fail
      refine HAP.out.mono ?_
      rintro e w' ⟨rfl, rfl⟩
      go_wp2_with fail
      go_ret
      exact ⟨ret_int (by rw [HEE.out, HE.out]), rfl⟩
    · have hgr := hcn.out.grow he
      have HN := Lib.hid hcn.out.next
      have hle := nw_len (mored l n q p) n
      obtain ⟨g2, rfl⟩ : ∃ g2, gk = g2 + 1 := ⟨gk - 1, by omega⟩
      have HM : Hid (n ≤ (nw (mored l n q p) n).length + g2) := by show _ ≤ _; omega
      have d0 : (numOf (mored l n q p) n == numOf p n) = false := by simpa using he
      have d1 : (((numOf (mored l n q p) n : Nat) : Int) == ((numOf p n : Nat) : Int)) = false := by
        have : ¬ ((numOf (mored l n q p) n : Nat) : Int) = ((numOf p n : Nat) : Int) := by omega
        simpa using this
      clear he hcn hgr hle hmeas
      generalize arN l n (numOf p n) = a at *
      generalize hmm : numOf (mored l n q p) n = m at *
      have HMM := Lib.hid hmm
      clear hmm
      go_wp2_with fail
      refine HAP.out.mono ?_
      rintro e w' ⟨rfl, rfl⟩
      go_wp2_with fail
      go_roundg g2
      case measure => omega
      case rel => exact ⟨mored l n q p, by rw [HMM.out], HN, HM.out, rfl⟩
end Go.Proofs.YtdhbaegkogklgaaDoor.bitsI

/- The contracts of the program's hasNumber, spreadIn, SpreadOf and IsStopping. -/
namespace Go.Proofs.YtdhbaegkogklgaaDoor.ups
open Go.RowKit P2 words edges ints good adjs fns sets rets covs bags bitsI func
set_option linter.unusedVariables false

/-- a valid Graph and a number of 1..8 -/
def NumOk (s : Int) (l : List Ed) (k : Int) : Prop := P2.Good s l ∧ 1 ≤ k ∧ k ≤ 8
def SpOk (s : Int) (l : List Ed) (xs : List Int) (r : Int) : Prop := NumOk s l r ∧ SetOk s l xs
noncomputable def sprL (s : Int) (l : List Ed) (xs : List Int) (r : Int) : List Int := ndN (spN s.toNat l r.toNat (codeL xs))
theorem code_set {n : Nat} {l : List Ed} {xs : List Int} (h : SetOk (n : Int) l xs) : codeL xs < 2 ^ n := code_lt (m := n) h.2.1
/-- the nodes of a neighborhood that are not in a set -/
def outN (l : List Ed) (n d x : Nat) : Nat := numOf (fun z => (cloB l x).testBit z && !d.testBit z) n
theorem num_bits {n g : Nat} (hg : g < 2 ^ n) : numOf (bitB g) n = g := by
  apply Nat.eq_of_testBit_eq
  intro i
  rw [numOf_bit]
  unfold bitB
  by_cases hi : i < n
  · simp [hi]
  · rw [decide_eq_false hi, Bool.false_and, Nat.testBit_lt_two_pow (Nat.lt_of_lt_of_le hg (Nat.pow_le_pow_right (by decide) (by omega)))]
theorem out_walk {n d x : Nat} {l : List Ed} (hg : P2.Good (n : Int) l) (hn : n ≤ 8) (hd : d < 2 ^ n) (hx : x < n) : bits .andNot .u64 (cloB l x : Int) (d : Int) = (outN l n d x : Int) := by
  have h1 := cloB_lt' hg x (by omega)
  have h2 := andNot_num (cloB l x) (bitB d) n (by omega) hn (fun z => (cloB l x).testBit z && !d.testBit z) (fun z _ => by
    unfold bitB
    by_cases hz : z < n
    · simp [hz]
    · have : (cloB l x).testBit z = false := by
        rw [cloB_bit hg, Bool.or_eq_false_iff]
        refine ⟨by simp; omega, ?_⟩
        cases ha : adj l (x : Int) (z : Int) with
        | false => rfl
        | true => have := (adj_node hg ha).2; omega
      simp [this])
  rw [num_bits hd] at h2
  exact h2
/-- each node of the set has less than r neighbors that are not in it -/
def stoB (l : List Ed) (n r d : Nat) (x : Int) : Bool := decide (r ≤ onesN (outN l n d x.toNat))
def StP (s : Int) (l : List Ed) (xs : List Int) (r : Int) : Prop := SpOk s l xs r ∧ 0 < xs.length ∧ xs.any (stoB l s.toNat r.toNat (codeL xs)) = false
end Go.Proofs.YtdhbaegkogklgaaDoor.ups
