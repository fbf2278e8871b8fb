/- Fires: mathematics. -/
import Derived.Test.YtdhbaegkogklgaaK04
import Derived.Test.YtdhbaegkogklgaaK08
import Derived.Test.YtdhbaegkogklgaaK14
import Derived.Test.YtdhbaegkogklgaaK02
import Derived.Handy
import Derived.Test.YtdhbaegkogklgaaK11
import Derived.Test.YtdhbaegkogklgaaK10
import Derived.Laws.AppendOwnNone
import Derived.Maps.AppendAt
import Derived.Test.YtdhbaegkogklgaaK06
import Derived.Deep.DeepCutAuto
import Derived.Deep.RegionHeld3
import Derived.Deep.QuietTactic
import Derived.Test.YtdhbaegkogklgaaK03
import Derived.Test.YtdhbaegkogklgaaK09
import Derived.Test.YtdhbaegkogklgaaK01
import Derived.Deep.RegionHeldLaw
import Derived.Test.YtdhbaegkogklgaaK17
namespace Go.Proofs.Ytdhbaegkogklgaa.fires
open Go.RowKit P2 words edges ints good adjs fns sets rets covs bitsI bags ups
set_option linter.unusedVariables false

theorem nbits {n g : Nat} (hg : g < 2 ^ n) : numOf (bitB g) n = g := by
  apply Nat.eq_of_testBit_eq
  intro i
  rw [numOf_bit]
  unfold bitB
  by_cases hi : i < n
  · simp [hi]
  · rw [decide_eq_false hi, Bool.false_and, Nat.testBit_lt_two_pow (Nat.lt_of_lt_of_le hg (Nat.pow_le_pow_right (by decide) (by omega)))]
theorem andNot_nn (p q : Nat → Bool) {n : Nat} (hn : n ≤ 8) : bits .andNot .u64 (numOf p n : Int) (numOf q n : Int) = (numOf (fun y => p y && !q y) n : Int) :=
  andNot_num (numOf p n) q n (by have := numOf_lt p hn; omega) hn _ fun z _ => by
    rw [numOf_bit]
    by_cases hz : z < n
    · simp [hz]
    · simp [hz]
theorem num_lt2 (p : Nat → Bool) (n : Nat) : numOf p n < 2 ^ n := Nat.lt_pow_two_of_testBit _ fun j hj => by rw [numOf_bit]; simp; omega
theorem or_lt2 {n a b : Nat} (ha : a < 2 ^ n) (hb : b < 2 ^ n) : a ||| b < 2 ^ n := Nat.or_lt_two_pow ha hb
/-- the nodes that burn next, and those that are neither burning nor defended -/
def thrN (l : List Ed) (n b d : Nat) : Nat := numOf (fun y => arB l n b y && !bitB b y && !bitB d y) n
def opnN (n b d : Nat) : Nat := numOf (fun y => !bitB b y && !bitB d y) n
/-- a fire: what burns, and what is defended -/
abbrev Fr := Nat × Nat
def aftF (l : List Ed) (n : Nat) (f : Fr) (s : Nat) : Fr := (f.1 ||| thrN l n f.1 (f.2 ||| s), f.2 ||| s)
def FrOk (n : Nat) (f : Fr) : Prop := f.1 < 2 ^ n ∧ f.2 < 2 ^ n
theorem aft_ok {l : List Ed} {n : Nat} {f : Fr} {s : Nat} (h : FrOk n f) (hs : s < 2 ^ n) : FrOk n (aftF l n f s) := ⟨or_lt2 h.1 (num_lt2 _ _), or_lt2 h.2 hs⟩
def valF (f : Fr) : Value := .agg #[.int .u64 (f.1 : Int), .int .u64 (f.2 : Int)]
end Go.Proofs.Ytdhbaegkogklgaa.fires

/- Best fire plans: mathematics. -/
namespace Go.Proofs.Ytdhbaegkogklgaa.fires
open Go.RowKit P2 words edges ints good adjs fns sets rets covs bitsI bags ups
set_option linter.unusedVariables false

/-- a node that is neither burning nor defended -/
def opB (f : Fr) (y : Nat) : Bool := !bitB f.1 y && !bitB f.2 y
/-- a set of nodes that are open -/
def subO (f : Fr) (c : Nat) : Bool := (ndN c).all fun y => opB f y.toNat
/-- the full sets of defenders -/
def csN (n d : Nat) (f : Fr) : List Nat := (setsK n (min d (onesN (opnN n f.1 f.2)))).filter (subO f)
theorem chL_filter (p : Int → Bool) : ∀ (xs : List Int) (d : Nat), chL (xs.filter p) d = (chL xs d).filter fun r => r.all p
  | xs, 0 => by
    have h : ∀ ys, chL ys 0 = [[]] := fun ys => by cases ys <;> rfl
    rw [h, h]; rfl
  | [], d + 1 => rfl
  | x :: r, d + 1 => by
    have h1 := chL_filter p r d
    have h2 := chL_filter p r (d + 1)
    show _ = ((chL r d).map (x :: ·) ++ chL r (d + 1)).filter _
    rw [List.filter_append, List.filter_map, ← h2]
    cases hp : p x with
    | true =>
      rw [List.filter_cons, if_pos hp]
      show (chL (r.filter p) d).map (x :: ·) ++ chL (r.filter p) (d + 1) = _
      rw [h1]
      congr 2
      apply List.filter_congr
      intro t _
      simp [hp]
    | false =>
      rw [List.filter_cons, if_neg (by rw [hp]; decide)]
      have : (chL r d).filter ((fun r => r.all p) ∘ fun t => x :: t) = [] := by
        rw [List.filter_eq_nil_iff]
        intro t _
        simp [hp]
      rw [this]; rfl
theorem chL_open {n : Nat} {f : Fr} {d : Nat} (hn : n ≤ 8) : chL (nw (opB f) n) (min d (onesN (opnN n f.1 f.2))) = rowN (csN n d f) := by
  have h1 : nw (opB f) n = (allN n).filter (fun y => opB f y.toNat) := by
    unfold nw allN
    rw [List.filter_map]; rfl
  have hm : min d (onesN (opnN n f.1 f.2)) ≤ 8 := by
    have : onesN (opnN n f.1 f.2) ≤ 8 := nw_len _ _
    omega
  rw [h1, chL_filter]
  have h2 := chL_sets ⟨n, by omega⟩ ⟨min d (onesN (opnN n f.1 f.2)), by omega⟩
  show (chL (allN n) _).filter _ = _
  rw [h2]
  unfold csN rowN
  rw [List.filter_map]; rfl
theorem open_len {n : Nat} {f : Fr} (hn : n ≤ 8) : (nw (opB f) n).length = onesN (opnN n f.1 f.2) := by
  unfold opnN
  rw [ones_num _ hn]; rfl
theorem csN_mem {n d c : Nat} {f : Fr} (hn : n ≤ 8) (h : c ∈ csN n d f) : c < 2 ^ n ∧ onesN c = min d (onesN (opnN n f.1 f.2)) ∧ subO f c = true := by
  have hm : min d (onesN (opnN n f.1 f.2)) ≤ 8 := by
    have : onesN (opnN n f.1 f.2) ≤ 8 := nw_len _ _
    omega
  obtain ⟨h1, h2⟩ := List.mem_filter.1 h
  have h3 := (setsK_mem hn hm).1 h1
  exact ⟨h3.1, h3.2, h2⟩
/-- the first best plan from a fire on, and how many nodes it saves -/
def bplN (l : List Ed) (n d : Nat) : Nat → Fr → List Nat × Int
  | 0, f => ([], (n : Int) - onesN f.1)
  | k + 1, f => if thrN l n f.1 f.2 = 0 then ([], (n : Int) - onesN f.1) else (csN n d f).foldl (fun B c => if B.2 < (bplN l n d k (aftF l n f c)).2 then (c :: (bplN l n d k (aftF l n f c)).1, (bplN l n d k (aftF l n f c)).2) else B) ([], -1)
/-- the best of some first sets -/
def bplT (l : List Ed) (n d k : Nat) (f : Fr) (L : List Nat) : List Nat × Int := L.foldl (fun B c => if B.2 < (bplN l n d k (aftF l n f c)).2 then (c :: (bplN l n d k (aftF l n f c)).1, (bplN l n d k (aftF l n f c)).2) else B) ([], -1)
theorem bplT_nil (l : List Ed) (n d k : Nat) (f : Fr) : bplT l n d k f [] = ([], -1) := rfl
theorem bplT_snoc (l : List Ed) (n d k : Nat) (f : Fr) (L : List Nat) (c : Nat) : bplT l n d k f (L ++ [c]) = if (bplT l n d k f L).2 < (bplN l n d k (aftF l n f c)).2 then (c :: (bplN l n d k (aftF l n f c)).1, (bplN l n d k (aftF l n f c)).2) else bplT l n d k f L := by
  unfold bplT
  rw [List.foldl_append]; rfl
theorem bplN_stop {l : List Ed} {n d k : Nat} {f : Fr} (h : thrN l n f.1 f.2 = 0) : bplN l n d k f = ([], (n : Int) - onesN f.1) := by
  cases k with
  | zero => rfl
  | succ k => show (if _ then _ else _) = _; rw [if_pos h]
theorem bplN_go {l : List Ed} {n d k : Nat} {f : Fr} (h : ¬ thrN l n f.1 f.2 = 0) : bplN l n d (k + 1) f = bplT l n d k f (csN n d f) := by
  show (if _ then _ else _) = _; rw [if_neg h]; rfl
theorem ones_le {n c : Nat} (hn : n ≤ 8) (hc : c < 2 ^ n) : onesN c ≤ n := by
  rw [← nd_len, ← nd_bits hn hc]
  exact nw_len _ _
theorem bplT_ind {l : List Ed} {n d k : Nat} {f : Fr} {Q : List Nat × Int → Prop} {L : List Nat} (h0 : Q ([], -1)) (hs : ∀ B c, c ∈ L → Q B → B.2 < (bplN l n d k (aftF l n f c)).2 → Q (c :: (bplN l n d k (aftF l n f c)).1, (bplN l n d k (aftF l n f c)).2)) : Q (bplT l n d k f L) := by
  have key : ∀ (M : List Nat), (∀ x ∈ M, x ∈ L) → Q (bplT l n d k f M.reverse) := by
    intro M
    induction M with
    | nil => intro _; exact h0
    | cons c M ih =>
      intro hM
      have h1 := ih (fun x hx => hM x (List.mem_cons_of_mem _ hx))
      rw [List.reverse_cons, bplT_snoc]
      split
      · rename_i hlt
        exact hs _ c (hM c List.mem_cons_self) h1 hlt
      · exact h1
  have := key L.reverse (fun x hx => List.mem_reverse.1 hx)
  rwa [List.reverse_reverse] at this
theorem bplN_len {l : List Ed} {n d : Nat} (hn : n ≤ 8) : ∀ (k : Nat) (f : Fr), FrOk n f → (bplN l n d k f).1.length ≤ k ∧ -1 ≤ (bplN l n d k f).2 ∧ (bplN l n d k f).2 ≤ n ∧ ∀ c ∈ (bplN l n d k f).1, c < 2 ^ n
  | 0, f, hf => by
    have := ones_le hn hf.1
    exact ⟨Nat.le_refl _, by show -1 ≤ (n : Int) - onesN f.1; omega, by show (n : Int) - onesN f.1 ≤ n; omega, fun c hc => by cases hc⟩
  | k + 1, f, hf => by
    have h9 := ones_le hn hf.1
    by_cases h : thrN l n f.1 f.2 = 0
    · rw [bplN_stop h]
      exact ⟨Nat.zero_le _, by show -1 ≤ (n : Int) - onesN f.1; omega, by show (n : Int) - onesN f.1 ≤ n; omega, fun c hc => by cases hc⟩
    · rw [bplN_go h]
      refine bplT_ind (Q := fun B => B.1.length ≤ k + 1 ∧ -1 ≤ B.2 ∧ B.2 ≤ n ∧ ∀ c ∈ B.1, c < 2 ^ n) ⟨Nat.zero_le _, Int.le_refl _, by show (-1 : Int) ≤ n; omega, fun c hc => by cases hc⟩ fun B c hc hB hlt => ?_
      have hcm := csN_mem hn hc
      obtain ⟨h2, h3, h4, h5⟩ := bplN_len (l := l) (d := d) hn k (aftF l n f c) (aft_ok hf hcm.1)
      exact ⟨by show (bplN l n d k (aftF l n f c)).1.length + 1 ≤ _; omega, h3, h4, fun x hx => by
        rcases List.mem_cons.1 hx with e | e
        · rw [e]; exact hcm.1
        · exact h5 x e⟩
theorem bplT_len {l : List Ed} {n d k : Nat} {f : Fr} {L : List Nat} (hn : n ≤ 8) (hf : FrOk n f) (hL : ∀ c ∈ L, c < 2 ^ n) : (bplT l n d k f L).1.length ≤ k + 1 ∧ -1 ≤ (bplT l n d k f L).2 ∧ (bplT l n d k f L).2 ≤ n := by
  refine bplT_ind (Q := fun B => B.1.length ≤ k + 1 ∧ -1 ≤ B.2 ∧ B.2 ≤ n) ⟨Nat.zero_le _, Int.le_refl _, by show (-1 : Int) ≤ n; omega⟩ fun B c hc hB hlt => ?_
  obtain ⟨h2, h3, h4, h5⟩ := bplN_len (l := l) (d := d) hn k (aftF l n f c) (aft_ok hf (hL c hc))
  exact ⟨by show (bplN l n d k (aftF l n f c)).1.length + 1 ≤ _; omega, h3, h4⟩
/-- each round leaves fewer nodes open -/
theorem open_less {l : List Ed} {n c : Nat} {f : Fr} (hn : n ≤ 8) (h : ¬ thrN l n f.1 f.2 = 0) : onesN (opnN n (aftF l n f c).1 (aftF l n f c).2) < onesN (opnN n f.1 f.2) := by
  obtain ⟨y, hy, hyt⟩ : ∃ y, y < n ∧ (arB l n f.1 y && !bitB f.1 y && !bitB f.2 y) = true := by
    apply Classical.byContradiction
    intro hh
    apply h
    unfold thrN
    rw [numOf_zero]
    intro k hk
    cases hb : (arB l n f.1 k && !bitB f.1 k && !bitB f.2 k) with
    | false => rfl
    | true => exact absurd ⟨k, hk, hb⟩ hh
  rw [Bool.and_eq_true, Bool.and_eq_true] at hyt
  have hyb : f.1.testBit y = false := by have := hyt.1.2; unfold bitB at this; simpa using this
  have hyd : f.2.testBit y = false := by have := hyt.2; unfold bitB at this; simpa using this
  have hO : ∀ k, (opnN n f.1 f.2).testBit k = (decide (k < n) && (!bitB f.1 k && !bitB f.2 k)) := fun k => by unfold opnN; rw [numOf_bit]
  have hO2 : ∀ k, (opnN n (aftF l n f c).1 (aftF l n f c).2).testBit k = (decide (k < n) && (!bitB (aftF l n f c).1 k && !bitB (aftF l n f c).2 k)) := fun k => by unfold opnN; rw [numOf_bit]
  have hout : (opnN n (aftF l n f c).1 (aftF l n f c).2).testBit y = false := by
    rw [hO2, decide_eq_true hy, Bool.true_and]
    unfold aftF bitB
    simp only
    by_cases hc : c.testBit y = true
    · rw [Nat.testBit_or, Nat.testBit_or, hc]; simp
    · have hc2 : c.testBit y = false := by simpa using hc
      have ht : (thrN l n f.1 (f.2 ||| c)).testBit y = true := by
        unfold thrN
        rw [numOf_bit, decide_eq_true hy]
        unfold bitB
        rw [Nat.testBit_or, hyb, hyd, hc2]
        simp [hyt.1.1]
      rw [Nat.testBit_or, ht]; simp
  have hlt : opnN n (aftF l n f c).1 (aftF l n f c).2 < 256 := numOf_lt _ hn
  have h1 := ones_put hlt (by omega : y < 8) hout
  have h2 : onesN (opnN n (aftF l n f c).1 (aftF l n f c).2 ||| 2 ^ y) ≤ onesN (opnN n f.1 f.2) := by
    refine ones_mono fun k hk hb => ?_
    unfold bitB at hb ⊢
    rw [Nat.testBit_or, Nat.testBit_two_pow, Bool.or_eq_true] at hb
    rw [hO]
    rcases hb with hb | hb
    · rw [hO2, Bool.and_eq_true, Bool.and_eq_true] at hb
      have e1 : f.1.testBit k = false := by
        have := hb.2.1
        unfold aftF bitB at this
        simp only [Nat.testBit_or, Bool.not_or, Bool.and_eq_true, Bool.not_eq_true'] at this
        exact this.1
      have e2 : f.2.testBit k = false := by
        have := hb.2.2
        unfold aftF bitB at this
        simp only [Nat.testBit_or, Bool.not_or, Bool.and_eq_true, Bool.not_eq_true'] at this
        exact this.1
      unfold bitB
      rw [e1, e2, hb.1]; rfl
    · have e : y = k := by simpa using hb
      subst e
      unfold bitB
      rw [hyb, hyd, decide_eq_true hy]; rfl
  omega
theorem open_none {l : List Ed} {n : Nat} {f : Fr} (hn : n ≤ 8) (h : onesN (opnN n f.1 f.2) ≤ 0) : thrN l n f.1 f.2 = 0 := by
  apply Classical.byContradiction
  intro hh
  have := open_less (c := 0) hn hh
  omega
end Go.Proofs.Ytdhbaegkogklgaa.fires

/- 'append([][]int{row}, rows...)': as a law for the walk. -/
namespace Go.Proofs.Ytdhbaegkogklgaa.ups
open Go.RowKit P2 words edges ints owns grid gridl
set_option linter.unusedVariables false

theorem own_cons {w w' : World} {B D : Nat} {v' pv u : Value} {us : List Value} {r : List Int} {rows : List (List Int)} (hG : OwnG w D pv us rows) (hDB : B ≤ D) (hu : w.ownsRow B 3 1 u r.length (cellsI r)) (hap : ∀ x ∈ us, ∀ k, x.ownBlock = some k → u.ownBlock ≠ some k)
    (hown : w'.ownsRow B 37 1 v' (1 + rows.length) ([u] ++ us)) (keep : ∀ (x : Value) (q : List Int) (C : Nat), w.ownsRow C 3 1 x q.length (cellsI q) → w'.ownsRow C 3 1 x q.length (cellsI q)) : OwnG w' B v' (u :: us) (r :: rows) := by
  refine ⟨by rw [List.length_cons, Nat.add_comm]; exact hown, fun i x q hx hq => ?_, fun i j x y k hij hx hy hk => ?_⟩
  · cases i with
    | zero => simp at hx hq; subst hx; subst hq; exact keep _ _ _ hu
    | succ i => simp at hx hq; exact own_base (keep _ _ _ (hG.2.1 i x q hx hq)) hDB
  · cases j with
    | zero => omega
    | succ j =>
      simp at hy
      cases i with
      | zero =>
        simp at hx; subst hx
        intro e
        exact hap y (List.mem_of_getElem? hy) k e hk
      | succ i => simp at hx; exact hG.2.2 i j x y k (by omega) hx hy hk
theorem wpList_append_cat {P : Program} (hP : P = Try.prog) {w6 : World} {ops : Array Oper} {rest : List Oper} {o : Oper} {a : Act} {Q : Exit → Act → World → Prop} (hgd : o.guard = none) (s x : Operand)
    (ho : o.op = .call { callee := .builtin .append, args := #[s, x], argTypes := #[25, 25] })
    {B D : Nat} {pv u : Value} {us : List Value} {r : List Int} {rows : List (List Int)} (hs : a.eval s = .slice (some ⟨w6.heap.size, 0, none⟩) 1 1) (hx : a.eval x = pv) (hG : OwnG w6 D pv us rows) (hDB : B ≤ D) (hB : B ≤ w6.heap.size) (hrl : rows.length ≤ 1048576) (hu : w6.ownsRow B 3 1 u r.length (cellsI r)) (h1 : u.oneCell' = true) (hap : ∀ x ∈ us, ∀ k, x.ownBlock = some k → u.ownBlock ≠ some k)
    (h : ∀ v' w', OwnG w' B v' (u :: us) (r :: rows) → Below w6.heap.size w6 w' → wpList P ops Q rest (a.put o.dst v') w') : wpList P ops Q (o :: rest) a (w6.alloc (.cells #[u] 37)) := by
  subst hP
  obtain ⟨i1, hi1, hy0, hy1, hy2⟩ := info_parts infoRow
  have hlit : (w6.alloc (.cells #[u] 37)).ownsRow B 37 1 (.slice (some ⟨w6.heap.size, 0, none⟩) 1 1) 1 [u] := by
    have h_ := World.ownsRow_lit (base := w6.heap.size) (e := 37) (size := 1) w6 #[u] 1 (Nat.le_refl _) (by unfold maxLen; omega) rfl
    exact own_base h_ hB
  have hlen := hG.len
  rcases hG.1.2 with ⟨rfl, h0⟩ | ⟨g, cap, cur, rfl, hgB, hgs, hnc, hcm, hcs, htk⟩
  · have hr0 : rows = [] := by
      have : rows.length = 0 := by first | exact h0 | omega
      exact List.length_eq_zero_iff.1 this
    subst hr0
    have hu0 : us = [] := List.length_eq_zero_iff.1 hlen
    subst hu0
    refine wpList_append_own_none hgd s x _ ho B 37 i1 1 Try.underlying25 hi1 _ 1 [u] hs hlit hx ?_
    exact h _ _ (own_cons hG hDB hu hap hlit (fun x q C h9 => h9.alloc _)) ((Below.refl _ _).alloc (Nat.le_refl _) _)
  · have hcells : ∀ j z, us[j]? = some z → (w6.alloc (.cells #[u] 37)).cell? ((⟨g, 0, none⟩ : Addr).add j) = some z := fun j z hz => by
      have h2 := ((hG.1).alloc (.cells #[u] 37)).cells (g := g) rfl j z hz
      exact h2
    refine wpList_append_own _ hgd s x _ ho B 37 i1 (.slice none 0 0) 1 24 Try.underlying25 hi1 hy0 hy1 hy2 rfl (by decide) _ 1 [u] hs hlit ⟨g, 0, none⟩ rows.length cap us hx (by omega) hcells (fun z hz => ?_) (by unfold maxLen; omega) (by omega) (by rw [World.size_alloc]; omega) fun v' w' hown hgrow _ => h v' w' ?_ ?_
    · obtain ⟨j, hj⟩ := List.getElem?_of_mem hz
      obtain ⟨q, hq⟩ : ∃ q, rows[j]? = some q := ⟨_, List.getElem?_eq_getElem (by have := (List.getElem?_eq_some_iff.1 hj).1; omega)⟩
      rcases (hG.2.1 j z q hj hq).2 with ⟨rfl, _⟩ | ⟨g', cap', cur', rfl, _⟩ <;> rfl
    · refine own_cons hG hDB hu hap hown fun x q C h9 => (h9.alloc _).kept hgrow ?_
      cases hh : x.ownBlock with
      | none => exact .inl rfl
      | some k =>
        refine .inr fun e => ?_
        have h3 := (h9.lt k hh).2
        simp [Value.ownBlock] at e
        omega
    · exact ((Below.refl w6.heap.size w6).alloc (Nat.le_refl _) (.cells #[u] 37)).grown hgrow (by rw [World.size_alloc]; omega) (fun j e => by simp [Value.ownBlock] at e; omega)
end Go.Proofs.Ytdhbaegkogklgaa.ups

/- The contracts of the program's fires: threatened, open, after, isFire. -/
namespace Go.Proofs.Ytdhbaegkogklgaa.fires
open Go.RowKit P2 words edges ints good adjs fns sets rets covs bitsI bags ups fronts
set_option linter.unusedVariables false

set_option maxHeartbeats 1000000 in
set_option maxRecDepth 100000 in
theorem thr_any (n : Nat) (f : Fr) (v : Value) (l : List Ed) (w : World) (h : Nums w v (clos l n)) (hg : P2.Good (n : Int) l) (hn : n ≤ 8) (hf : FrOk n f) :
    Calls Try.prog 97 #[.agg #[.int .u64 (f.1 : Int), .int .u64 (f.2 : Int)], v] w fun e w' => e = .returned (.int .u64 (thrN l n f.1 f.2 : Int)) ∧ Below w.heap.size w w' := by
  obtain ⟨b, d⟩ := f
  obtain ⟨A, c, rfl, -⟩ := h.form
  have hb : b < 2 ^ n := hf.1
  have hd : d < 2 ^ n := hf.2
  have hb8 : b < 256 := Nat.lt_of_lt_of_le hb (pow_le hn)
  have b0 : Below w.heap.size w (w.alloc (.cells #[.int .u64 (b : Int), .int .u64 (d : Int)] 82)) := (Below.refl _ _).alloc (Nat.le_refl _) _
  obtain ⟨p0, p1, -, -⟩ := (Blk.new w 82 #[.int .u64 (b : Int), .int .u64 (d : Int)]).two
  have HCA := Lib.hid (fun (nq : Nat) => closedAround_any n b (.slice A (clos l n).length c) l ((w.alloc (.cells #[.int .u64 (b : Int), .int .u64 (d : Int)] 82)).drewN nq) ((h.below b0).below (below_drewN (Below.refl _ _) nq)) hg hn hb8)
  have h1 : bits .andNot .u64 ((arN l n b : Nat) : Int) (b : Int) = ((numOf (fun y => arB l n b y && !bitB b y) n : Nat) : Int) := by
    have := andNot_nn (arB l n b) (bitB b) hn
    rw [nbits hb] at this
    exact this
  have h2 : bits .andNot .u64 ((numOf (fun y => arB l n b y && !bitB b y) n : Nat) : Int) (d : Int) = ((thrN l n b d : Nat) : Int) := by
    have := andNot_nn (fun y => arB l n b y && !bitB b y) (bitB d) hn
    rw [nbits hd] at this
    exact this
  have HB0 := Lib.hid b0
  show Calls _ _ _ _ fun e w' => e = .returned (.int .u64 ((thrN l n b d : Nat) : Int)) ∧ _
  clear h hg hf b0 hb hd
  generalize thrN l n b d = y3 at *
  generalize numOf (fun y => arB l n b y && !bitB b y) n = y2 at *
  generalize arN l n b = y1 at *
  show Calls Try.prog _ #[.agg #[.int .u64 (b : Int), .int .u64 (d : Int)], .slice A (clos l n).length c] _ _
  go_enter Try.func97, Try.ntmps97
  go_wp2_with fail
  go_quiet (first | (go_at_call 112; exact quiet_left (HCA.out _)))
  go_wp2_with fail
  go_ret
  exact ⟨rfl, below_drewN HB0.out _⟩
set_option maxHeartbeats 1000000 in
set_option maxRecDepth 100000 in
theorem opn_any (n : Nat) (f : Fr) (v : Value) (l : List Ed) (w : World) (h : Nums w v (clos l n)) (hn : n ≤ 8) (hf : FrOk n f) :
    Calls Try.prog 98 #[.agg #[.int .u64 (f.1 : Int), .int .u64 (f.2 : Int)], v] w fun e w' => e = .returned (.int .u64 (opnN n f.1 f.2 : Int)) ∧ Below w.heap.size w w' := by
  obtain ⟨b, d⟩ := f
  obtain ⟨A, c, rfl, -⟩ := h.form
  have hb : b < 2 ^ n := hf.1
  have hd : d < 2 ^ n := hf.2
  have hcl := clos_len l n
  have b0 : Below w.heap.size w (w.alloc (.cells #[.int .u64 (b : Int), .int .u64 (d : Int)] 82)) := (Below.refl _ _).alloc (Nat.le_refl _) _
  obtain ⟨p0, p1, -, -⟩ := (Blk.new w 82 #[.int .u64 (b : Int), .int .u64 (d : Int)]).two
  have h0 : IntKind.u64.wrap (IntKind.u64.wrap ((2 : Int) ^ n) - 1) = ((numOf (fun _ => true) n : Nat) : Int) := shl_all hn
  have h1 : bits .andNot .u64 ((numOf (fun _ => true) n : Nat) : Int) (b : Int) = ((numOf (fun y => !bitB b y) n : Nat) : Int) := by
    have := andNot_nn (fun _ => true) (bitB b) hn
    rw [nbits hb] at this
    simpa using this
  have h2 : bits .andNot .u64 ((numOf (fun y => !bitB b y) n : Nat) : Int) (d : Int) = ((opnN n b d : Nat) : Int) := by
    have := andNot_nn (fun y => !bitB b y) (bitB d) hn
    rw [nbits hd] at this
    exact this
  have HB0 := Lib.hid b0
  show Calls _ _ _ _ fun e w' => e = .returned (.int .u64 ((opnN n b d : Nat) : Int)) ∧ _
  show Calls Try.prog _ #[.agg #[.int .u64 (b : Int), .int .u64 (d : Int)], .slice A (clos l n).length c] _ _
  rw [hcl]
  clear h hf b0 hb hd hcl
  generalize opnN n b d = y3 at *
  generalize numOf (fun y => !bitB b y) n = y2 at *
  generalize numOf (fun _ => true) n = y1 at *
  go_enter Try.func98, Try.ntmps98
  go_wp2_with fail
  go_quiet (fail)
  go_wp2_with fail
  go_ret
  exact ⟨rfl, below_drewN HB0.out _⟩
set_option maxHeartbeats 2000000 in
set_option maxRecDepth 100000 in
theorem aft_any (n : Nat) (f : Fr) (s : Nat) (v : Value) (l : List Ed) (w : World) (h : Nums w v (clos l n)) (hg : P2.Good (n : Int) l) (hn : n ≤ 8) (hf : FrOk n f) (hs : s < 2 ^ n) :
    Calls Try.prog 99 #[.agg #[.int .u64 (f.1 : Int), .int .u64 (f.2 : Int)], v, .int .u64 (s : Int)] w fun e w' => e = .returned (.agg #[.int .u64 ((aftF l n f s).1 : Int), .int .u64 ((aftF l n f s).2 : Int)]) ∧ Below w.heap.size w w' := by
  obtain ⟨b, d⟩ := f
  obtain ⟨A, c, rfl, -⟩ := h.form
  have hb : b < 2 ^ n := hf.1
  have hd : d < 2 ^ n := hf.2
  have hb8 : b < 256 := Nat.lt_of_lt_of_le hb (pow_le hn)
  have hd8 : d < 256 := Nat.lt_of_lt_of_le hd (pow_le hn)
  have hs8 : s < 256 := Nat.lt_of_lt_of_le hs (pow_le hn)
  have ht8 : thrN l n b (d ||| s) < 256 := numOf_lt _ hn
  have HTH := Lib.hid (fun (W : World) (hW : Below w.heap.size w W) => thr_any n (b, d ||| s) (.slice A (clos l n).length c) l W (h.below hW) hg hn ⟨hb, or_lt2 hd hs⟩)
  have h1 := bits_or_u64_nat d s (by omega) (by omega)
  have h2 := bits_or_u64_nat b (thrN l n b (d ||| s)) (by omega) (by omega)
  have g0 := (Blk.new w 82 #[.int .u64 (b : Int), .int .u64 (d : Int)])
  show Calls Try.prog _ #[.agg #[.int .u64 (b : Int), .int .u64 (d : Int)], .slice A (clos l n).length c, .int .u64 (s : Int)] _ fun e w' => e = .returned (.agg #[.int .u64 ((b ||| thrN l n b (d ||| s) : Nat) : Int), .int .u64 ((d ||| s : Nat) : Int)]) ∧ _
  clear h hg hf hb hd hb8 hd8 hs8 ht8
  go_enter Try.func99, Try.ntmps99
  go_wp2_with fail
  have g1 := (Blk.new w 82 #[.int .u64 (b : Int), .int .u64 ((d ||| s : Nat) : Int)]).alloc (.cells #[.int .u64 0, .int .u64 0] 82)
  have g2 := Blk.new (w.alloc (.cells #[.int .u64 (b : Int), .int .u64 ((d ||| s : Nat) : Int)] 82)) 82 #[.int .u64 0, .int .u64 0]
  rw [World.size_alloc] at g2
  have bx : Below w.heap.size w ((w.alloc (.cells #[.int .u64 (b : Int), .int .u64 ((d ||| s : Nat) : Int)] 82)).alloc (.cells #[.int .u64 0, .int .u64 0] 82)) := ((Below.refl _ _).alloc (Nat.le_refl _) _).alloc (by simp) _
  have hsz : ((w.alloc (.cells #[.int .u64 (b : Int), .int .u64 ((d ||| s : Nat) : Int)] 82)).alloc (.cells #[.int .u64 0, .int .u64 0] 82)).heap.size = w.heap.size + 2 := by simp
  have HSZ := Lib.hid hsz
  clear hsz g0
  generalize (w.alloc (.cells #[.int .u64 (b : Int), .int .u64 ((d ||| s : Nat) : Int)] 82)).alloc (.cells #[.int .u64 0, .int .u64 0] 82) = wx at *
  have HT := Lib.hid (HTH.out wx.drew bx.drew)
  have HG1 := Lib.hid g1
  have HG2 := Lib.hid g2
  have HBX := Lib.hid bx
  obtain ⟨p0, p1, z0, z1⟩ := g1.two
  clear g1 g2 bx HTH
  generalize hT : thrN l n b (d ||| s) = t at *
  have HTT := Lib.hid hT
  clear hT
  go_region_with (go_at_call 97; (with_reducible refine HT.out.mono ?_); rintro e w3 ⟨rfl, b3⟩; have d3 : Below wx.heap.size wx w3 := btrans (Below.refl _ _).drew b3; obtain ⟨k0, k1, k2, k3⟩ := (HG1.out.below d3 HG1.out.lt).two)
  all_goals
    have HG3 : Hid (Blk (w3.setCell ⟨w.heap.size, 0, none⟩ (.int .u64 ((b ||| t : Nat) : Int))) w.heap.size 82 #[.int .u64 ((b ||| t : Nat) : Int), .int .u64 ((d ||| s : Nat) : Int)]) := by
      have h_ := (HG1.out.below d3 HG1.out.lt).set_ 0 (.int .u64 ((b ||| t : Nat) : Int))
      show Blk _ _ _ _
      simpa using h_
    have HG4 := Lib.hid ((HG2.out.below d3 HG2.out.lt).far (p := ⟨w.heap.size, 0, none⟩) (by simp) (.int .u64 ((b ||| t : Nat) : Int)))
    have HB4 := Lib.hid ((btrans HBX.out d3).setCell (p := ⟨w.heap.size, 0, none⟩) (Nat.le_refl _) (.int .u64 ((b ||| t : Nat) : Int)))
    clear p0 p1 z0 z1 k0 k1 k2 k3 b3 d3
    generalize w3.setCell ⟨w.heap.size, 0, none⟩ (.int .u64 ((b ||| t : Nat) : Int)) = w4 at *
    obtain ⟨m0, m1, -, -⟩ := HG3.out.two
    obtain ⟨m2, m3, y2, y3⟩ := HG4.out.two
    go_wp2_with fail
    have HG6 : Hid (Blk ((w4.setCell ⟨w.heap.size + 1, 0, none⟩ (.int .u64 ((b ||| t : Nat) : Int))).setCell ⟨w.heap.size + 1, 1, none⟩ (.int .u64 ((d ||| s : Nat) : Int))) (w.heap.size + 1) 82 #[.int .u64 ((b ||| t : Nat) : Int), .int .u64 ((d ||| s : Nat) : Int)]) := by
      have h_ := (HG4.out.set_ 0 (.int .u64 ((b ||| t : Nat) : Int))).set_ 1 (.int .u64 ((d ||| s : Nat) : Int))
      show Blk _ _ _ _
      simpa using h_
    have HB6 := Lib.hid ((HB4.out.setCell (p := ⟨w.heap.size + 1, 0, none⟩) (by simp) (.int .u64 ((b ||| t : Nat) : Int))).setCell (p := ⟨w.heap.size + 1, 1, none⟩) (by simp) (.int .u64 ((d ||| s : Nat) : Int)))
    obtain ⟨q0, q1, -, -⟩ := HG6.out.two
    refine bodyPost_ret (v := .agg #[.int .u64 ((b ||| t : Nat) : Int), .int .u64 ((d ||| s : Nat) : Int)]) (by simp [results, Try.results99, go_sem, q0, q1]) rfl ⟨by rw [HTT.out], HB6.out⟩
/-- a valid Graph, a node of it and a number of defenders -/
def FireP (s : Int) (l : List Ed) (start d : Int) : Prop := nodesB s l [start] = true ∧ 0 ≤ d ∧ d ≤ 3
set_option maxHeartbeats 1000000 in
set_option maxRecDepth 100000 in
theorem isFire_any (s start d : Int) (v : Value) (l : List Ed) (w : World) (h : Edges w v l) (hl : l.length ≤ 1048576) :
    Calls Try.prog 62 #[.agg #[.int .i64 s, v], .int .i64 start, .int .i64 d] w fun e w' => e = .returned (.bool (okG (FireP s l start d))) ∧ Below w.heap.size w w' := by
  obtain ⟨A, c, rfl, -⟩ := h.form
  have b0 : Below w.heap.size w ((w.alloc (.cells #[.int .i64 s, .slice A l.length c] 30)).alloc (.cells #[.int .i64 start] 3)) := ((Below.refl _ _).alloc (Nat.le_refl _) _).alloc (by simp) _
  obtain ⟨p0, p1, -, -⟩ := (Blk.new w 30 #[.int .i64 s, .slice A l.length c]).two
  have g2 := Blk.new (w.alloc (.cells #[.int .i64 s, .slice A l.length c] 30)) 3 #[.int .i64 start]
  rw [World.size_alloc] at g2
  have hI : Ints ((w.alloc (.cells #[.int .i64 s, .slice A l.length c] 30)).alloc (.cells #[.int .i64 start] 3)) (.slice (some ⟨w.heap.size + 1, 0, none⟩) 1 1) [start] := balls.one_reads g2
  have HNB := Lib.hid (hasNodes_any s (.slice A l.length c) (.slice (some ⟨w.heap.size + 1, 0, none⟩) 1 1) l [start] _ (h.below b0) hl hI (by simp))
  have HB0 := Lib.hid b0
  clear h b0 g2 hI
  cases hnb : nodesB s l [start] with
  | true =>
    rw [hnb] at HNB
    by_cases h1 : 0 ≤ d
    · by_cases h2 : d ≤ 3
      · have HV : Hid (okG (FireP s l start d) = true) := okG_yes ⟨hnb, h1, h2⟩
        clear hnb
        go_enter Try.func62, Try.ntmps62
        go_wp2_with fail
        refine HNB.out.mono ?_
        rintro e w1 ⟨rfl, b1⟩
        go_wp2_with fail
        go_ret
        exact ⟨ret_bool HV.out.symm, btrans HB0.out b1⟩
      · have HV : Hid (okG (FireP s l start d) = false) := okG_no fun h => h2 h.2.2
        clear hnb
        go_enter Try.func62, Try.ntmps62
        go_wp2_with fail
        refine HNB.out.mono ?_
        rintro e w1 ⟨rfl, b1⟩
        go_wp2_with fail
        go_ret
        exact ⟨ret_bool (by rw [HV.out]; exact decide_eq_false (by omega)), btrans HB0.out b1⟩
    · have HV : Hid (okG (FireP s l start d) = false) := okG_no fun h => h1 h.2.1
      clear hnb
      go_enter Try.func62, Try.ntmps62
      go_wp2_with fail
      refine HNB.out.mono ?_
      rintro e w1 ⟨rfl, b1⟩
      go_wp2_with fail
      go_ret
      exact ⟨ret_bool HV.out.symm, btrans HB0.out b1⟩
  | false =>
    rw [hnb] at HNB
    have HV : Hid (okG (FireP s l start d) = false) := okG_no fun h => by have := h.1; rw [hnb] at this; cases this
    clear hnb
    go_enter Try.func62, Try.ntmps62
    go_wp2_with fail
    refine HNB.out.mono ?_
    rintro e w1 ⟨rfl, b1⟩
    go_wp2_with fail
    go_ret
    exact ⟨ret_bool HV.out.symm, btrans HB0.out b1⟩
end Go.Proofs.Ytdhbaegkogklgaa.fires

/- Fire plans: what they are, and the contract of the program's firesOf. -/
namespace Go.Proofs.Ytdhbaegkogklgaa.fires
open Go.RowKit P2 words edges ints good adjs fns sets rets covs bitsI bags ups gridr
set_option linter.unusedVariables false

/-- the fires at first and after each round -/
def stF (l : List Ed) (n x : Nat) (rows : List (List Int)) : Nat → Fr
  | 0 => (2 ^ x, 0)
  | i + 1 => aftF l n (stF l n x rows i) (if i < rows.length then codeL (rows.getD i []) else 0)
/-- the i-th set is one that can be defended -/
def apB (n : Nat) (f : Fr) (c : Nat) : Prop := c &&& opnN n f.1 f.2 = c
def RowP (n : Nat) (l : List Ed) (x : Nat) (d : Int) (rows : List (List Int)) (i : Nat) : Prop :=
  ((rows.getD i []).length : Int) ≤ d ∧ SetOk (n : Int) l (rows.getD i []) ∧ apB n (stF l n x rows i) (codeL (rows.getD i []))
def PlanN (n : Nat) (l : List Ed) (x : Nat) (d : Int) (rows : List (List Int)) : Prop := rows.length ≤ 8 ∧ ∀ i, i < rows.length → RowP n l x d rows i
def PlanP (s : Int) (l : List Ed) (start d : Int) (rows : List (List Int)) : Prop := FireP s l start d ∧ PlanN s.toNat l start.toNat d rows
theorem zero_lt2 (n : Nat) : 0 < 2 ^ n := Nat.pow_pos (by decide)
theorem st_ok {n : Nat} {l : List Ed} {x : Nat} {d : Int} {rows : List (List Int)} (hx : x < n) (h : ∀ i, i < rows.length → SetOk (n : Int) l (rows.getD i [])) : ∀ i, FrOk n (stF l n x rows i)
  | 0 => ⟨Nat.pow_lt_pow_right (by decide) hx, zero_lt2 n⟩
  | i + 1 => aft_ok (st_ok (d := d) hx h i) (by
    split
    · rename_i hi; exact code_lt (m := n) (h i hi).2.1
    · exact zero_lt2 n)
theorem st_ok' {n : Nat} {l : List Ed} {x : Nat} {rows : List (List Int)} (hx : x < n) : ∀ i, (∀ j, j < i → j < rows.length → SetOk (n : Int) l (rows.getD j [])) → FrOk n (stF l n x rows i)
  | 0, _ => ⟨Nat.pow_lt_pow_right (by decide) hx, zero_lt2 n⟩
  | i + 1, h => aft_ok (st_ok' hx i fun j hj hj2 => h j (by omega) hj2) (by
    split
    · rename_i hi; exact code_lt (m := n) (h i (by omega) hi).2.1
    · exact zero_lt2 n)
/-- the last of the fires -/
def EndP (l : List Ed) (n x : Nat) (rows : List (List Int)) (N : Nat) : Prop :=
  rows.length ≤ N ∧ (∀ j, rows.length ≤ j → j < N → thrN l n (stF l n x rows j).1 (stF l n x rows j).2 ≠ 0) ∧ thrN l n (stF l n x rows N).1 (stF l n x rows N).2 = 0
theorem EndP.same {l : List Ed} {n x : Nat} {rows : List (List Int)} {M N : Nat} (h : EndP l n x rows M) (k : EndP l n x rows N) : M = N := by
  rcases Nat.lt_trichotomy M N with e | e | e
  · exact absurd h.2.2 (k.2.1 M h.1 e)
  · exact e
  · exact absurd k.2.2 (h.2.1 N k.1 e)
def frL (l : List Ed) (n x : Nat) (rows : List (List Int)) (k : Nat) : List Fr := (List.range (k + 1)).map (stF l n x rows)
theorem frL_len (l : List Ed) (n x : Nat) (rows : List (List Int)) (k : Nat) : (frL l n x rows k).length = k + 1 := by simp [frL]
theorem frL_succ (l : List Ed) (n x : Nat) (rows : List (List Int)) (k : Nat) : frL l n x rows (k + 1) = frL l n x rows k ++ [stF l n x rows (k + 1)] := by
  unfold frL; rw [List.range_succ (n := k + 1), List.map_append]; rfl
def cellsF (L : List Fr) : List Value := L.flatMap fun f => [.int .u64 (f.1 : Int), .int .u64 (f.2 : Int)]
theorem cellsF_app (L M : List Fr) : cellsF (L ++ M) = cellsF L ++ cellsF M := by simp [cellsF]
theorem apB_iff {n : Nat} {f : Fr} {c : Nat} (hc : c < 2 ^ n) : apB n f c ↔ ∀ y, c.testBit y = true → f.1.testBit y = false ∧ f.2.testBit y = false := by
  unfold apB
  constructor
  · intro h y hy
    have : (c &&& opnN n f.1 f.2).testBit y = true := by rw [h]; exact hy
    rw [Nat.testBit_and, hy, Bool.true_and] at this
    unfold opnN at this
    rw [numOf_bit] at this
    unfold bitB at this
    simp at this
    exact ⟨this.2.1, this.2.2⟩
  · intro h
    apply Nat.eq_of_testBit_eq
    intro i
    rw [Nat.testBit_and]
    cases hb : c.testBit i with
    | false => simp
    | true =>
      have hi : i < n := by
        by_cases e : i < n
        · exact e
        · rw [Nat.testBit_lt_two_pow (Nat.lt_of_lt_of_le hc (Nat.pow_le_pow_right (by decide) (by omega)))] at hb; cases hb
      obtain ⟨h1, h2⟩ := h i hb
      unfold opnN
      rw [numOf_bit]
      unfold bitB
      simp [hi, h1, h2]
theorem thr_more {l : List Ed} {n : Nat} {f : Fr} (hn : n ≤ 8) (hf : FrOk n f) (h : thrN l n f.1 f.2 ≠ 0) : onesN f.1 < onesN (f.1 ||| thrN l n f.1 f.2) := by
  obtain ⟨b, d⟩ := f
  simp only at h ⊢
  have hb8 : b < 256 := Nat.lt_of_lt_of_le hf.1 (pow_le hn)
  have hex : ∃ y, y < n ∧ (arB l n b y && !bitB b y && !bitB d y) = true := by
    refine Classical.byContradiction fun hno => h (numOf_zero.2 fun y hy => ?_)
    cases hb : (arB l n b y && !bitB b y && !bitB d y) with
    | false => rfl
    | true => exact absurd ⟨y, hy, hb⟩ hno
  obtain ⟨y, hy, hp⟩ := hex
  have hby : b.testBit y = false := by
    simp only [Bool.and_eq_true, Bool.not_eq_true'] at hp
    exact hp.1.2
  have h1 := ones_put hb8 (show y < 8 by omega) hby
  have h2 : onesN (b ||| 2 ^ y) ≤ onesN (b ||| thrN l n b d) := ones_mono fun k _ hk => by
    unfold bitB at hk ⊢
    rw [put_bit, Bool.or_eq_true, decide_eq_true_iff] at hk
    rw [Nat.testBit_or, Bool.or_eq_true]
    rcases hk with hk | rfl
    · exact .inl hk
    · refine .inr ?_
      unfold thrN
      rw [numOf_bit, decide_eq_true hy, hp]; rfl
  omega
theorem apB_num {n : Nat} {f : Fr} {c : Nat} (hc : c < 2 ^ n) : numOf (fun y => bitB c y && !(!bitB f.1 y && !bitB f.2 y)) n = 0 ↔ apB n f c := by
  rw [numOf_zero, apB_iff hc]
  constructor
  · intro h y hy
    have hi : y < n := by
      by_cases e : y < n
      · exact e
      · rw [Nat.testBit_lt_two_pow (Nat.lt_of_lt_of_le hc (Nat.pow_le_pow_right (by decide) (by omega)))] at hy; cases hy
    have := h y hi
    unfold bitB at this
    rw [hy] at this
    simpa using this
  · intro h y hy
    unfold bitB
    cases hb : c.testBit y with
    | false => rfl
    | true =>
      obtain ⟨h1, h2⟩ := h y hb
      simp [h1, h2]
theorem ap_walk {n : Nat} {f : Fr} {c : Nat} (hn : n ≤ 8) (hc : c < 2 ^ n) : bits .andNot .u64 (c : Int) ((opnN n f.1 f.2 : Nat) : Int) = ((numOf (fun y => bitB c y && !(!bitB f.1 y && !bitB f.2 y)) n : Nat) : Int) := by
  have := andNot_nn (bitB c) (fun y => !bitB f.1 y && !bitB f.2 y) hn
  rw [nbits hc] at this
  exact this
end Go.Proofs.Ytdhbaegkogklgaa.fires

/- Best fire plans: the contract of the program's bestPlan. -/
namespace Go.Proofs.Ytdhbaegkogklgaa.fires
open Go.RowKit P2 words edges ints owns good adjs fns sets rets covs bitsI bags ups grid gridr gridl
set_option linter.unusedVariables false

/-- a plan and what it saves -/
def RetB (w : World) (B : List Nat × Int) (e : Ending) (w' : World) : Prop :=
  ∃ A c us, e = .returned (.tuple #[.slice A (rowN B.1).length c, .int .i64 B.2]) ∧ OwnG w' w.heap.size (.slice A (rowN B.1).length c) us (rowN B.1) ∧ Below w.heap.size w w'
theorem sub_walk {n c : Nat} {f : Fr} (hn : n ≤ 8) (hc : c < 2 ^ n) : (bits .andNot .u64 (c : Int) ((opnN n f.1 f.2 : Nat) : Int) == 0) = subO f c := by
  rw [ap_walk hn hc, Bool.eq_iff_iff, beq_iff_eq]
  have h1 : ((numOf (fun y => bitB c y && !(!bitB f.1 y && !bitB f.2 y)) n : Nat) : Int) = 0 ↔ numOf (fun y => bitB c y && !(!bitB f.1 y && !bitB f.2 y)) n = 0 := by omega
  rw [h1, numOf_zero]
  unfold subO
  rw [List.all_eq_true]
  constructor
  · intro h x hx
    obtain ⟨y, hy, hp, rfl⟩ := mem_nw.1 hx
    have hyn : y < n := by
      apply Classical.byContradiction
      intro hh
      unfold bitB at hp
      have : 2 ^ n ≤ 2 ^ y := Nat.pow_le_pow_right (by decide) (by omega)
      rw [Nat.testBit_lt_two_pow (by omega)] at hp
      cases hp
    have := h y hyn
    rw [hp] at this
    rw [Int.toNat_natCast]
    unfold opB
    simpa using this
  · intro h y hy
    cases hp : bitB c y with
    | false => rfl
    | true =>
      have := h (y : Int) (mem_nw.2 ⟨y, by omega, hp, rfl⟩)
      rw [Int.toNat_natCast] at this
      unfold opB at this
      rw [this]; rfl
set_option maxHeartbeats 4000000 in
set_option maxRecDepth 100000 in
theorem bestPlan_stop (n d k : Nat) (f : Fr) (vc : Value) (l : List Ed) (w : World) (hg : P2.Good (n : Int) l) (hn : n ≤ 8) (hf : FrOk n f) (hc : Nums w vc (clos l n)) (ht : thrN l n f.1 f.2 = 0) :
    Calls Try.prog 63 #[.agg #[.int .u64 (f.1 : Int), .int .u64 (f.2 : Int)], vc, .int .i64 (d : Int)] w (RetB w (bplN l n d k f)) := by
  rw [bplN_stop ht]
  obtain ⟨b, e_⟩ := f
  obtain ⟨A, c, rfl, -⟩ := hc.form
  have hlen := clos_len l n
  have hb2 : b < 2 ^ n := hf.1
  have hb8 := Nat.lt_of_lt_of_le hb2 (pow_le hn)
  obtain ⟨wg, hwg⟩ : ∃ wg, wg = w.alloc (.cells #[.int .u64 (b : Int), .int .u64 (e_ : Int)] 82) := ⟨_, rfl⟩
  have b0 : Below w.heap.size w wg := by rw [hwg]; exact (Below.refl _ _).alloc (Nat.le_refl _) _
  have g0 : Blk wg w.heap.size 82 #[.int .u64 (b : Int), .int .u64 (e_ : Int)] := by rw [hwg]; exact Blk.new _ _ _
  obtain ⟨p0, p1, -, -⟩ := g0.two
  have HT := Lib.hid (thr_any n (b, e_) _ l wg (hc.below b0) hg hn hf)
  have ht2 : thrN l n b e_ = 0 := ht
  rw [show thrN l n (b, e_).1 (b, e_).2 = 0 from ht] at HT
  have HB0 := Lib.hid b0
  have HG0 := Lib.hid g0
  have HWG := Lib.hid hwg
  rw [hwg] at p0 p1
  have HCO := Lib.hid (fun (W : World) => count_any b W hb8)
  have hon8 : onesN b ≤ 8 := nw_len _ _
  have hw1 : IntKind.i64.wrap ((n : Int) - (onesN b : Int)) = (n : Int) - (onesN b : Int) := IntWalk.i64_in _ (by omega)
  clear hc b0 g0 hwg ht ht2 hf
  rw [hlen] at HT ⊢
  clear hlen
  go_enter Try.func63, Try.ntmps63
  go_wp2_with fail
  rw [← HWG.out]
  refine HT.out.mono ?_
  rintro e w1 ⟨rfl, b1⟩
  have HE1 := Lib.hid (btrans HB0.out b1)
  have HG1 := Lib.hid (HG0.out.below b1 HG0.out.lt)
  clear p0 p1 b1
  obtain ⟨p0, p1, -, -⟩ := HG1.out.two
  go_wp2_with fail
  refine (HCO.out w1).mono ?_
  rintro e w' ⟨rfl, rfl⟩
  go_wp2_with fail
  go_ret2
  exact ⟨none, 0, [], rfl, ⟨World.ownsRow_nil _ _ _ _, fun i u r hu => by simp at hu, fun i j u u' k _ hu => by simp at hu⟩, HE1.out⟩
set_option maxHeartbeats 16000000 in
set_option maxRecDepth 100000 in
theorem bestPlan_any (n d : Nat) (vc : Value) (l : List Ed) (hg : P2.Good (n : Int) l) (hn : n ≤ 8) (hd : d ≤ 3) : ∀ (k : Nat) (f : Fr) (w : World), k ≤ 8 → onesN (opnN n f.1 f.2) ≤ k → FrOk n f → Nums w vc (clos l n) →
    Calls Try.prog 63 #[.agg #[.int .u64 (f.1 : Int), .int .u64 (f.2 : Int)], vc, .int .i64 (d : Int)] w (RetB w (bplN l n d k f)) := by
  intro k
  induction k with
  | zero => exact fun f w _ hk hf hc => bestPlan_stop n d 0 f vc l w hg hn hf hc (open_none hn hk)
  | succ k ih =>
    intro f w hk8 hk hf hc
    have HSTOP := Lib.hid (bestPlan_stop n d (k + 1) f vc l w hg hn hf hc)
    obtain ⟨b, e_⟩ := f
    obtain ⟨A, c, rfl, -⟩ := hc.form
    have hlen := clos_len l n
    have HC := Lib.hid hc
    have hb2 : b < 2 ^ n := hf.1
    have hb8 := Nat.lt_of_lt_of_le hb2 (pow_le hn)
    obtain ⟨wg, hwg⟩ : ∃ wg, wg = w.alloc (.cells #[.int .u64 (b : Int), .int .u64 (e_ : Int)] 82) := ⟨_, rfl⟩
    have b0 : Below w.heap.size w wg := by rw [hwg]; exact (Below.refl _ _).alloc (Nat.le_refl _) _
    have g0 : Blk wg w.heap.size 82 #[.int .u64 (b : Int), .int .u64 (e_ : Int)] := by rw [hwg]; exact Blk.new _ _ _
    obtain ⟨p0, p1, -, -⟩ := g0.two
    have HT := Lib.hid (thr_any n (b, e_) _ l wg (hc.below b0) hg hn hf)
    have HB0 := Lib.hid b0
    have HG0 := Lib.hid g0
    have HWG := Lib.hid hwg
    rw [hwg] at p0 p1
    have HO := Lib.hid (fun (W : World) (hW : Below w.heap.size w W) => opn_any n (b, e_) _ l W (hc.below hW) hn hf)
    have hol : opnN n b e_ < 256 := numOf_lt _ hn
    have HCO := Lib.hid (fun (W : World) => count_any (opnN n b e_) W hol)
    have hon8 : onesN (opnN n b e_) ≤ 8 := nw_len _ _
    by_cases ht : thrN l n b e_ = 0
    · exact HSTOP.out ht
    · have hq : (((thrN l n b e_ : Nat) : Int) == 0) = false := by rw [beq_eq_false_iff_ne]; omega
      have hq2 : (thrN l n b e_ == 0) = false := by rw [beq_eq_false_iff_ne]; exact ht
      have HV : Hid (bplN l n d (k + 1) (b, e_) = bplT l n d k (b, e_) (csN n d (b, e_))) := bplN_go ht
      have hm8 : min d (onesN (opnN n b e_)) ≤ 8 := by omega
      have HSO := Lib.hid (fun (z : Int) (hz : z = ((min d (onesN (opnN n b e_)) : Nat) : Int)) (W : World) => (by have h_ := setsOf_own n (min d (onesN (opnN n b e_))) W hn hm8; rw [← hz] at h_; exact h_ : Calls Try.prog 41 #[.int .i64 (n : Int), .int .i64 z] W fun e w' => ∃ A c, e = .returned (.slice A (setsK n (min d (onesN (opnN n b e_)))).length c) ∧ w'.ownsRow W.heap.size 62 1 (.slice A (setsK n (min d (onesN (opnN n b e_)))).length c) (setsK n (min d (onesN (opnN n b e_)))).length (cellsU (setsK n (min d (onesN (opnN n b e_))))) ∧ Below W.heap.size W w'))
      have hsl := setsK_len hn hm8
      have HSM : Hid (∀ c ∈ setsK n (min d (onesN (opnN n b e_))), c < 2 ^ n) := fun c hc => ((setsK_mem hn hm8).1 hc).1
      have HPF : Hid ((setsK n (min d (onesN (opnN n b e_)))).filter (subO (b, e_)) = csN n d (b, e_)) := rfl
      have HTL := Lib.hid (fun (L : List Nat) (hL : ∀ c ∈ L, c < 2 ^ n) => bplT_len (l := l) (d := d) (k := k) hn hf hL)
      have HAF := Lib.hid (fun (c : Nat) (hc : c < 2 ^ n) (W : World) (hW : Below w.heap.size w W) => aft_any n (b, e_) c _ l W (HC.out.below hW) hg hn hf hc)
      have HIH := Lib.hid (fun (c : Nat) (hc : c < 2 ^ n) (W : World) (hW : Below w.heap.size w W) => ih (aftF l n (b, e_) c) W (by omega) (by have := open_less (c := c) hn (f := (b, e_)) ht; have h9 : onesN (opnN n (b, e_).1 (b, e_).2) ≤ k + 1 := hk; omega) (aft_ok hf hc) (HC.out.below hW))
      have HPN := Lib.hid (fun (c : Nat) (hc : c < 2 ^ n) => bplN_len (l := l) (d := d) hn k (aftF l n (b, e_) c) (aft_ok hf hc))
      have HSW := Lib.hid (fun (c : Nat) (hc : c < 2 ^ n) => sub_walk (f := (b, e_)) hn hc)
      have HBS := Lib.hid (fun (L : List Nat) (c : Nat) => bplT_snoc l n d k (b, e_) L c)
      have HPW := Lib.hid (pow_le hn)
      have HT0 : Hid (rowN (bplT l n d k (b, e_) ([].filter (subO (b, e_)))).1 = [] ∧ (bplT l n d k (b, e_) ([].filter (subO (b, e_)))).2 = -1) := ⟨rfl, rfl⟩
      clear hc b0 g0 hwg ih hk hf ht
      rw [hlen] at HT HO HAF HIH
      go_enter Try.func63, Try.ntmps63
      rw [hlen]
      clear hlen
      go_wp2_with fail
      rw [← HWG.out]
      refine HT.out.mono ?_
      rintro e w1 ⟨rfl, b1⟩
      have HE1 := Lib.hid (btrans HB0.out b1)
      have HG1 := Lib.hid (HG0.out.below b1 HG0.out.lt)
      clear p0 p1 b1
      obtain ⟨p0, p1, -, -⟩ := HG1.out.two
      go_wp2_with fail
      refine (HO.out w1 HE1.out).mono ?_
      rintro e w2 ⟨rfl, b2⟩
      have HE2 := Lib.hid (btrans HE1.out b2)
      have HG2 := Lib.hid (HG1.out.below b2 HG1.out.lt)
      clear p0 p1 b2
      go_wp2_with fail
      refine (HCO.out w2).mono ?_
      rintro e w' ⟨rfl, rfl⟩
      go_wp2_with fail
      all_goals
        refine (HSO.out _ (by omega) w2).mono ?_
        rintro e w3 ⟨A5, c5, rfl, o5, b3⟩
        have HE3 := Lib.hid (btrans HE2.out b3)
        have HG3 := Lib.hid (HG2.out.below b3 HG2.out.lt)
        have HN3 : Hid (Nums w3 (.slice A5 (setsK n (min d (onesN (opnN n b e_)))).length c5) (setsK n (min d (onesN (opnN n b e_))))) := Reads.of_own o5
        clear o5 b3
        try clear h
        generalize setsK n (min d (onesN (opnN n b e_))) = L at *
        have hsz3 := HE3.out.size
        go_wp2_with fail
        go_loopg [9, 10, 36] L.length (fun g bv mv iv wr => ∃ (i : Nat) (bw : Value) (us : List Value), bw = bv ∧ i + g = L.length ∧ iv = .int .i64 (i : Int) ∧ mv = .int .i64 (bplT l n d k (b, e_) ((L.take i).filter (subO (b, e_)))).2 ∧ OwnG wr w.heap.size bw us (rowN (bplT l n d k (b, e_) ((L.take i).filter (subO (b, e_)))).1) ∧ Below w3.heap.size w3 wr)
        case atStart => exact ⟨0, _, [], rfl, by omega, rfl, rfl, ⟨World.ownsRow_nil _ _ _ _, fun i u r hu => by simp at hu, fun i j u u' k _ hu => by simp at hu⟩, Below.refl _ _⟩
        case round =>
          obtain ⟨i, bw, us, rfl, hig, rfl, rfl, hown, hB⟩ := hrel
          have HB := Lib.hid hB
          have HBE := Lib.hid (btrans HE3.out hB)
          have HOW := Lib.hid hown
          obtain ⟨A7, c7, rfl⟩ := own_form hown.1
          cases gk with
          | zero =>
            obtain rfl : i = L.length := by omega
            rw [List.take_length, HPF.out] at hown ⊢
            have HO9 := Lib.hid hown
            clear hown hB HOW
            go_wp2_with fail
            go_ret2
            rw [HV.out]
            exact ⟨A7, c7, us, rfl, HO9.out, HBE.out⟩
          | succ g2 =>
            have hlt : i < L.length := by omega
            have hlt' : (i : Int) < (L.length : Int) := by omega
            obtain ⟨x, hx⟩ : ∃ x, L[i]? = some x := ⟨_, List.getElem?_eq_getElem hlt⟩
            have hx2 := HSM.out x (List.mem_of_getElem? hx)
            obtain ⟨_, _, hf2, hcc⟩ := (show Nums wr (.slice A5 L.length c5) L from HN3.out.below hB).form
            cases hf2
            obtain ⟨g5, o5, rfl, q5⟩ := hcc i x hx
            have hsw := HSW.out x hx2
            have HTK : Hid (L.take (i + 1) = L.take i ++ [x]) := by show _ = _; rw [List.take_add_one, hx]; rfl
            have HG4 := Lib.hid (HG3.out.below hB HG3.out.lt)
            obtain ⟨p0, p1, -, -⟩ := HG4.out.two
            have HPNx := Lib.hid (HPN.out x hx2)
            have HAFx := Lib.hid (HAF.out x hx2)
            have HIHx := Lib.hid (HIH.out x hx2)
            have HTLi := Lib.hid (HTL.out ((L.take i).filter (subO (b, e_))) (fun c hc => HSM.out c (List.mem_of_mem_take (List.mem_filter.1 hc).1)))
            have hx8 : x < 256 := by have := HPW.out; omega
            cases hs : subO (b, e_) x with
            | false =>
              have HFL : Hid ((L.take (i + 1)).filter (subO (b, e_)) = (L.take i).filter (subO (b, e_))) := by show _ = _; rw [HTK.out, List.filter_append]; simp [hs]
              rw [hs] at hsw
              have hz1 : (bits BinOp.andNot IntKind.u64 (x : Int) ((opnN n b e_ : Nat) : Int) != 0) = true := by rw [bne, hsw]; rfl
              clear hx hcc hown hB hs
              go_wp2_with fail
              go_roundg g2
              case measure => omega
              case rel => exact ⟨i + 1, _, us, rfl, by omega, by go_num, by rw [HFL.out], by rw [HFL.out]; exact HOW.out, HB.out⟩
            | true =>
              have HFL : Hid ((L.take (i + 1)).filter (subO (b, e_)) = (L.take i).filter (subO (b, e_)) ++ [x]) := by show _ = _; rw [HTK.out, List.filter_append]; simp [hs]
              rw [hs] at hsw
              have hz1 : (bits BinOp.andNot IntKind.u64 (x : Int) ((opnN n b e_ : Nat) : Int) != 0) = false := by rw [bne, hsw]; rfl
              have HSN := Lib.hid (HBS.out ((L.take i).filter (subO (b, e_))) x)
              have HND := Lib.hid (fun (W : World) => nodes_any x W (by omega))
              rw [show nw (bitB x) 8 = ndN x from rfl] at HND
              clear hx hcc hown hB hs
              obtain ⟨FB, hFB⟩ : ∃ FB, FB = bplT l n d k (b, e_) ((L.take i).filter (subO (b, e_))) := ⟨_, rfl⟩
              obtain ⟨r, hr⟩ : ∃ r, r = bplN l n d k (aftF l n (b, e_) x) := ⟨_, rfl⟩
              rw [← hFB] at HSN HTLi HOW ⊢
              rw [← hr] at HSN HPNx HIHx
              generalize aftF l n (b, e_) x = f2 at *
              clear hFB hr
              have hrn := HPNx.out.1
              have hr1 := HPNx.out.2.1
              have hr2 := HPNx.out.2.2.1
              have hb1 := HTLi.out.2.1
              have hb2' := HTLi.out.2.2
              have HRL := Lib.hid (rowN_len r.1)
              go_wp2_with fail
              refine (HAFx.out wr HBE.out).mono ?_
              rintro e w4 ⟨rfl, b4⟩
              have HB4 := Lib.hid (btrans HB.out b4)
              have HE4 := Lib.hid (btrans HBE.out b4)
              have HO4 := Lib.hid (HOW.out.below b4)
              have q6 := nearv.cell_keep q5 b4
              clear b4 q5 p0 p1
              go_wp2_with fail
              refine (HIHx.out w4 HE4.out).mono ?_
              rintro e w5 ⟨A8, c8, us8, rfl, o8, b8⟩
              have HB5 := Lib.hid (btrans HB4.out b8)
              have HE5 := Lib.hid (btrans HE4.out b8)
              have HO5 := Lib.hid (HO4.out.below b8)
              have HP5 := Lib.hid o8
              have hz4 := HE4.out.size
              have hz5 := b8.size
              clear q6 b8 o8
              by_cases hlt2 : FB.2 < r.2
              · have HN : Hid (bplT l n d k (b, e_) ((L.take (i + 1)).filter (subO (b, e_))) = (x :: r.1, r.2)) := by show _ = _; rw [HFL.out, HSN.out, if_pos hlt2]
                have hd1 : decide (FB.2 < r.2) = true := decide_eq_true hlt2
                have HRC : Hid (rowN (x :: r.1) = ndN x :: rowN r.1) := rfl
                clear hlt2 HSN
                go_wp2_with fail
                refine (HND.out w5).mono ?_
                rintro e w6 ⟨A6, c6, rfl, o6, b6⟩
                have hG6 := HP5.out.below b6
                have hu6 := own_base (B' := w.heap.size) o6 (Nat.le_trans hz4 hz5)
                have hap : ∀ y ∈ us8, ∀ k, y.ownBlock = some k → (Value.slice A6 (ndN x).length c6).ownBlock ≠ some k := fun y hy k hk e => by
                  obtain ⟨j, hj⟩ := List.getElem?_of_mem hy
                  obtain ⟨q, hq⟩ : ∃ q, (rowN r.1)[j]? = some q := ⟨_, List.getElem?_eq_getElem (by have := (List.getElem?_eq_some_iff.1 hj).1; have := HP5.out.len; omega)⟩
                  have h1 := ((HP5.out.2.1 j y q hj hq).lt k hk).2
                  have h2 := (o6.lt k e).1
                  omega
                have hz6 := b6.size
                have HB6 := Lib.hid (btrans HB5.out b6)
                have hsz : w.heap.size ≤ w6.heap.size := by omega
                have hrl : (rowN r.1).length ≤ 1048576 := by rw [HRL.out]; omega
                clear o6 b6
                go_wp2_with (at_builtin; refine wpList_append_cat rfl rfl _ _ rfl rfl rfl hG6 hz4 hsz hrl hu6 rfl hap ?_; intro v9 w9 hG9 hB9)
                have HG9 := Lib.hid hG9
                have HB9 := Lib.hid (btrans HB6.out hB9)
                clear hG9 hB9 hG6 hu6 hap
                go_roundg g2
                case measure => omega
                case rel => exact ⟨i + 1, v9, _, rfl, by omega, by go_num, by rw [HN.out], by rw [HN.out, HRC.out]; exact HG9.out, HB9.out⟩
              · have HN : Hid (bplT l n d k (b, e_) ((L.take (i + 1)).filter (subO (b, e_))) = FB) := by show _ = _; rw [HFL.out, HSN.out, if_neg hlt2]
                have hd1 : decide (FB.2 < r.2) = false := decide_eq_false hlt2
                clear hlt2 HSN
                go_wp2_with fail
                go_roundg g2
                case measure => omega
                case rel => exact ⟨i + 1, _, us, rfl, by omega, by go_num, by rw [HN.out], by rw [HN.out]; exact HO5.out, HB5.out⟩
end Go.Proofs.Ytdhbaegkogklgaa.fires

/- The contracts of the model's l8Set, l8Apart, l8Next. -/
namespace Go.Proofs.Ytdhbaegkogklgaa.fires
open Go.RowKit P2 words edges ints good adjs fns sets rets covs balls bitsI bags ups gridr
set_option linter.unusedVariables false

/-- what a fire is in the model: two lists -/
def valL (A B : Value) : Value := .agg #[A, B]
theorem mem_bits {n b : Nat} {y : Nat} (hb : b < 2 ^ n) : decide (((y : Nat) : Int) ∈ nw (bitB b) n) = b.testBit y := by
  cases ht : b.testBit y with
  | true =>
    rw [decide_eq_true_iff]
    have hy : y < n := by
      by_cases e : y < n
      · exact e
      · rw [Nat.testBit_lt_two_pow (Nat.lt_of_lt_of_le hb (Nat.pow_le_pow_right (by decide) (by omega)))] at ht; cases ht
    exact mem_nw.2 ⟨y, hy, ht, rfl⟩
  | false =>
    rw [decide_eq_false_iff_not]
    intro hm
    obtain ⟨z, _, hz, e⟩ := mem_nw.1 hm
    have : y = z := by omega
    subst this
    unfold bitB at hz
    rw [ht] at hz; cases hz
def ApL (b d : Nat) (xs : List Int) (k : Nat) : Prop := ∀ j y, j < k → xs[j]? = some y → b.testBit y.toNat = false ∧ d.testBit y.toNat = false
end Go.Proofs.Ytdhbaegkogklgaa.fires

/- The contracts of the model's l8Next and l8Good. -/
namespace Go.Proofs.Ytdhbaegkogklgaa.fires
open Go.RowKit P2 words edges ints good adjs fns sets rets covs balls bitsI bags ups gridr
set_option linter.unusedVariables false

def thB (l : List Ed) (n b d : Nat) (y : Nat) : Bool := arB l n b y && !bitB b y && !bitB d y
def nxB (l : List Ed) (n b d x : Nat) (q : Bool) (y : Nat) : Bool := (decide (y < x) && thB l n b d y) || (q && decide (y = x))
theorem nx_zero (l : List Ed) (n b d m : Nat) : nw (nxB l n b d 0 false) m = [] := by
  unfold nw
  rw [List.map_eq_nil_iff, List.filter_eq_nil_iff]
  intro y hy
  unfold nxB
  simp
theorem nx_skip {l : List Ed} {n b d x : Nat} (h : thB l n b d x = false) (m : Nat) : nw (nxB l n b d x false) m = nw (nxB l n b d (x + 1) false) m := nw_congr fun y hy => by
  unfold nxB
  by_cases e : y = x
  · subst e; simp [h]
  · have : decide (y < x) = decide (y < x + 1) := by rw [decide_eq_decide]; omega
    rw [this]; simp
theorem nx_done {l : List Ed} {n b d x : Nat} {q : Bool} (h : q = thB l n b d x) (m : Nat) : nw (nxB l n b d x q) m = nw (nxB l n b d (x + 1) false) m := nw_congr fun y hy => by
  unfold nxB
  by_cases e : y = x
  · subst e; simp [h]
  · have : decide (y < x) = decide (y < x + 1) := by rw [decide_eq_decide]; omega
    rw [this]; simp [e]
theorem nx_put {l : List Ed} {n b d x : Nat} {q : Bool} {L : List Int} (hx : x < n) (h : PutI (nw (nxB l n b d x q) n) (x : Int) L) : L = nw (nxB l n b d x true) n :=
  asc_ext h.1 (nw_asc _ _) fun e => by
    rw [h.2.1 e, mem_nw, mem_nw]
    constructor
    · rintro (rfl | ⟨j, hj, hp, rfl⟩)
      · exact ⟨x, hx, by unfold nxB; simp, rfl⟩
      · refine ⟨j, hj, ?_, rfl⟩
        unfold nxB at hp ⊢
        cases q with
        | true => exact hp
        | false => simp at hp; simp [hp]
    · rintro ⟨j, hj, hp, rfl⟩
      by_cases e : j = x
      · exact .inl (by rw [e])
      · refine .inr ⟨j, hj, ?_, rfl⟩
        unfold nxB at hp ⊢
        simp [e] at hp
        simp [hp]
theorem nx_all {l : List Ed} {n b d : Nat} : nw (nxB l n b d n false) n = nw (bitB (thrN l n b d)) n := nw_congr fun y hy => by
  unfold nxB bitB thrN
  rw [numOf_bit]
  unfold thB bitB
  simp [hy]
def NxQ (l : List Ed) (b n x k : Nat) (q : Bool) : Prop := q = true ↔ ∃ j y, j < k ∧ (nw (bitB b) n)[j]? = some y ∧ adj l y (x : Int) = true
theorem NxQ.zero (l : List Ed) (b n x : Nat) : NxQ l b n x 0 false := by
  refine ⟨fun h => (by cases h), ?_⟩
  rintro ⟨j, _, hj, _⟩
  omega
theorem NxQ.yes {l : List Ed} {b n x k : Nat} {y : Int} (hy : (nw (bitB b) n)[k]? = some y) (ha : adj l y (x : Int) = true) : NxQ l b n x (k + 1) true := ⟨fun _ => ⟨k, y, by omega, hy, ha⟩, fun _ => rfl⟩
theorem NxQ.no {l : List Ed} {b n x k : Nat} {q : Bool} {y : Int} (h : NxQ l b n x k q) (hy : (nw (bitB b) n)[k]? = some y) (ha : adj l y (x : Int) = false) : NxQ l b n x (k + 1) q := by
  unfold NxQ
  rw [show q = true ↔ _ from h]
  constructor
  · rintro ⟨j, z, hj, hz, hh⟩; exact ⟨j, z, by omega, hz, hh⟩
  · rintro ⟨j, z, hj, hz, hh⟩
    by_cases e : j = k
    · subst e; rw [hy] at hz; cases hz; rw [ha] at hh; cases hh
    · exact ⟨j, z, by omega, hz, hh⟩
theorem NxQ.all {l : List Ed} {b d n x : Nat} {q : Bool} (h : NxQ l b n x (nw (bitB b) n).length q) (hb : b.testBit x = false) (hd : d.testBit x = false) : q = thB l n b d x := by
  rw [Bool.eq_iff_iff, show q = true ↔ _ from h]
  unfold thB bitB
  rw [hb, hd]
  simp only [Bool.not_false, Bool.and_true]
  rw [arB_iff]
  constructor
  · rintro ⟨j, y, hj, hy, ha⟩
    obtain ⟨z, hz, hp, rfl⟩ := mem_nw.1 (List.mem_of_getElem? hy)
    exact ⟨z, hz, hp, .inr ha⟩
  · rintro ⟨z, hz, hp, h2⟩
    rcases h2 with rfl | ha
    · rw [hb] at hp; cases hp
    · obtain ⟨j, hj⟩ := List.getElem?_of_mem (mem_nw.2 ⟨z, hz, hp, rfl⟩ : ((z : Nat) : Int) ∈ nw (bitB b) n)
      exact ⟨j, _, (List.getElem?_eq_some_iff.1 hj).1, hj, ha⟩
set_option maxHeartbeats 4000000 in
set_option maxRecDepth 100000 in
theorem l8Next_any (n : Nat) (f : Fr) (v Bv Dv : Value) (l : List Ed) (w : World) (h : Edges w v l) (hl : l.length ≤ 1048576) (hf : FrOk n f) (hn : n ≤ 8) (hb : Ints w Bv (nw (bitB f.1) n)) (hd : Ints w Dv (nw (bitB f.2) n)) :
    Calls Try.prog 92 #[.agg #[.int .i64 (n : Int), v], .agg #[Bv, Dv]] w (RowI w (nw (bitB (thrN l n f.1 f.2)) n)) := by
  obtain ⟨b, d⟩ := f
  have hb2 : b < 2 ^ n := hf.1
  have hd2 : d < 2 ^ n := hf.2
  change Ints w Bv (nw (bitB b) n) at hb
  change Ints w Dv (nw (bitB d) n) at hd
  show Calls _ _ _ _ (RowI w (nw (bitB (thrN l n b d)) n))
  obtain ⟨A, c, rfl, -⟩ := h.form
  obtain ⟨A1, c1, rfl, hc1⟩ := hb.form
  obtain ⟨A3, c3, rfl, -⟩ := hd.form
  have H := Lib.hid h
  have HB := Lib.hid hb
  have HD := Lib.hid hd
  have HC1 := Lib.hid hc1
  have hnl1 := nw_len (bitB b) n
  have hnl2 := nw_len (bitB d) n
  have HMB := Lib.hid (fun (y : Nat) => mem_bits (y := y) hb2)
  have HMD := Lib.hid (fun (y : Nat) => mem_bits (y := y) hd2)
  have HNX := Lib.hid (nx_all (l := l) (n := n) (b := b) (d := d))
  have HSK := Lib.hid (fun (x : Nat) (h : thB l n b d x = false) => nx_skip h n)
  have HDN := Lib.hid (fun (x : Nat) (q : Bool) (h : q = thB l n b d x) => nx_done h n)
  have HQA := Lib.hid (fun (x : Nat) (q : Bool) (h : NxQ l b n x (nw (bitB b) n).length q) => NxQ.all (d := d) h)
  have HQY := Lib.hid (fun (x k : Nat) (y : Int) => NxQ.yes (l := l) (b := b) (n := n) (x := x) (k := k) (y := y))
  have HQN := Lib.hid (fun (x k : Nat) (q : Bool) (y : Int) => NxQ.no (l := l) (b := b) (n := n) (x := x) (k := k) (q := q) (y := y))
  have HQZ := Lib.hid (fun (x : Nat) => NxQ.zero l b n x)
  have HTB : Hid (∀ x, b.testBit x = true ∨ d.testBit x = true → thB l n b d x = false) := fun x hx => by
    unfold thB bitB
    rcases hx with hx | hx <;> rw [hx] <;> simp
  have b0 : Below w.heap.size w (((w.alloc (.cells #[.int .i64 (n : Int), .slice A l.length c] 30)).alloc (.cells #[.slice A1 (nw (bitB b) n).length c1, .slice A3 (nw (bitB d) n).length c3] 80)).alloc (.cells #[] 3)) := (((Below.refl _ _).alloc (Nat.le_refl _) _).alloc (by simp) _).alloc (by rw [World.size_alloc, World.size_alloc]; exact Nat.le_trans (Nat.le_add_right _ _) (Nat.le_add_right _ _)) _
  have HB0 := Lib.hid b0
  have HG0 := Lib.hid (((Blk.new w 30 #[.int .i64 (n : Int), .slice A l.length c]).alloc (.cells #[.slice A1 (nw (bitB b) n).length c1, .slice A3 (nw (bitB d) n).length c3] 80)).alloc (.cells #[] 3))
  have gf := (Blk.new (w.alloc (.cells #[.int .i64 (n : Int), .slice A l.length c] 30)) 80 #[.slice A1 (nw (bitB b) n).length c1, .slice A3 (nw (bitB d) n).length c3]).alloc (.cells #[] 3)
  rw [World.size_alloc] at gf
  have HF0 := Lib.hid gf
  have o0 := own_new0 ((w.alloc (.cells #[.int .i64 (n : Int), .slice A l.length c] 30)).alloc (.cells #[.slice A1 (nw (bitB b) n).length c1, .slice A3 (nw (bitB d) n).length c3] 80)) 3 1
  rw [World.size_alloc, World.size_alloc] at o0
  have HO0 : Hid ((((w.alloc (.cells #[.int .i64 (n : Int), .slice A l.length c] 30)).alloc (.cells #[.slice A1 (nw (bitB b) n).length c1, .slice A3 (nw (bitB d) n).length c3] 80)).alloc (.cells #[] 3)).ownsRow w.heap.size 3 1 (.slice (some ⟨w.heap.size + 1 + 1, 0, none⟩) 0 0) (nw (nxB l n b d 0 false) n).length (cellsI (nw (nxB l n b d 0 false) n))) := by
    show World.ownsRow _ _ _ _ _ _ _
    rw [nx_zero]
    exact own_base o0 (Nat.le_trans (Nat.le_add_right _ _) (Nat.le_add_right _ _))
  clear h hb hd hc1 hf hb2 hd2 b0 gf o0
  generalize thrN l n b d = T at *
  generalize hLB : nw (bitB b) n = LB at *
  generalize nw (bitB d) n = LD at *
  clear hLB
  go_enter Try.func92, Try.ntmps92
  go_wp2_with fail
  go_loopg [5, 6] n (fun g ov xv wr => ∃ (x : Nat) (ow : Value), ow = ov ∧ x + g = n ∧ xv = .int .i64 (x : Int) ∧ wr.ownsRow w.heap.size 3 1 ow (nw (nxB l n b d x false) n).length (cellsI (nw (nxB l n b d x false) n)) ∧ Blk wr w.heap.size 30 #[.int .i64 (n : Int), .slice A l.length c] ∧ Blk wr (w.heap.size + 1) 80 #[.slice A1 LB.length c1, .slice A3 LD.length c3] ∧ Below w.heap.size w wr)
  case atStart => exact ⟨0, _, rfl, by omega, rfl, HO0.out, HG0.out, HF0.out, HB0.out⟩
  case round =>
    clear HO0 HG0 HF0 HB0
    obtain ⟨x, ow, rfl, hxg, rfl, hrow, hgb, hfb, hB⟩ := hrel
    obtain ⟨A4, c4, rfl⟩ := own_form hrow
    have HR := Lib.hid hrow
    have HG := Lib.hid hgb
    have HF := Lib.hid hfb
    have HW := Lib.hid hB
    obtain ⟨p0, p1, -, -⟩ := hgb.two
    obtain ⟨p2, p3, -, -⟩ := hfb.two
    cases gk with
    | zero =>
      obtain rfl : x = n := by omega
      have HR2 := HR.out
      rw [HNX.out] at HR2
      have HR3 := Lib.hid HR2
      clear hrow hgb hfb hB HR2
      rw [HNX.out]
      go_wp2_with fail
      go_ret
      exact ⟨_, _, rfl, HR3.out, HW.out⟩
    | succ g2 =>
      have hxn : x < n := by omega
      have hxn' : (x : Int) < (n : Int) := by omega
      have HH1 := Lib.hid (l1Has_any (.slice A1 LB.length c1) LB (x : Int) wr (HB.out.below hB) (by omega))
      have HH2 := Lib.hid (l1Has_any (.slice A3 LD.length c3) LD (x : Int) wr (HD.out.below hB) (by omega))
      rw [HMB.out] at HH1
      rw [HMD.out] at HH2
      clear hrow hgb hfb hB
      cases hb1 : b.testBit x with
      | true =>
        have HE := Lib.hid (HSK.out x (HTB.out x (.inl hb1)))
        rw [hb1] at HH1
        go_wp2_with fail
        refine HH1.out.mono ?_
        rintro e w' ⟨rfl, rfl⟩
        go_wp2_with fail
        go_roundg g2
        case measure => omega
        case rel => exact ⟨x + 1, _, rfl, by omega, by go_num, by rw [← HE.out]; exact HR.out, HG.out, HF.out, HW.out⟩
      | false =>
        rw [hb1] at HH1
        cases hd1 : d.testBit x with
        | true =>
          have HE := Lib.hid (HSK.out x (HTB.out x (.inr hd1)))
          rw [hd1] at HH2
          go_wp2_with fail
          refine HH1.out.mono ?_
          rintro e w' ⟨rfl, rfl⟩
          go_wp2_with fail
          refine HH2.out.mono ?_
          rintro e w' ⟨rfl, rfl⟩
          go_wp2_with fail
          go_roundg g2
          case measure => omega
          case rel => exact ⟨x + 1, _, rfl, by omega, by go_num, by rw [← HE.out]; exact HR.out, HG.out, HF.out, HW.out⟩
        | false =>
          rw [hd1] at HH2
          have HQX := Lib.hid (fun (q : Bool) (h : NxQ l b n x LB.length q) => HDN.out x q (HQA.out x q h hb1 hd1))
          clear HSK HDN HQA HTB
          go_wp2_with fail
          refine HH1.out.mono ?_
          rintro e w' ⟨rfl, rfl⟩
          go_wp2_with fail
          refine HH2.out.mono ?_
          rintro e w' ⟨rfl, rfl⟩
          go_wp2_with fail
          clear p0 p1 p2 p3
          go_loopg [5, 7] LB.length (fun g ov kv wr => ∃ (k : Nat) (q : Bool) (ow : Value), ow = ov ∧ k + g = LB.length ∧ kv = .int .i64 (k : Int) ∧ Hid (NxQ l b n x k q) ∧ wr.ownsRow w.heap.size 3 1 ow (nw (nxB l n b d x q) n).length (cellsI (nw (nxB l n b d x q) n)) ∧ Blk wr w.heap.size 30 #[.int .i64 (n : Int), .slice A l.length c] ∧ Blk wr (w.heap.size + 1) 80 #[.slice A1 LB.length c1, .slice A3 LD.length c3] ∧ Below w.heap.size w wr)
          case atStart => exact ⟨0, false, _, rfl, by omega, rfl, Lib.hid (HQZ.out x), HR.out, HG.out, HF.out, HW.out⟩
          case round =>
            clear HR HG HF HW
            obtain ⟨k, q, ow, rfl, hkg, rfl, hq, hrow, hgb, hfb, hB⟩ := hrel
            obtain ⟨A6, c6, rfl⟩ := own_form hrow
            have HR := Lib.hid hrow
            have HG := Lib.hid hgb
            have HF := Lib.hid hfb
            have HW := Lib.hid hB
            obtain ⟨p0, p1, -, -⟩ := hgb.two
            obtain ⟨p2, p3, -, -⟩ := hfb.two
            cases gk with
            | zero =>
              obtain rfl : k = LB.length := by omega
              have HE := Lib.hid (HQX.out q hq.out)
              clear hrow hgb hfb hB
              go_wp2_with fail
              go_roundg g2
              case measure => omega
              case rel => exact ⟨x + 1, _, rfl, by omega, by go_num, by rw [← HE.out]; exact HR.out, HG.out, HF.out, HW.out⟩
            | succ g3 =>
              have hlt : k < LB.length := by omega
              have hlt' : (k : Int) < (LB.length : Int) := by omega
              obtain ⟨y, hy⟩ : ∃ y, LB[k]? = some y := ⟨_, List.getElem?_eq_getElem hlt⟩
              obtain ⟨g5, o5, rfl, c5⟩ := HC1.out k _ hy
              have q5 := nearv.cell_keep c5 hB
              have HNR := Lib.hid (l2Near_any (n : Int) y (x : Int) (.slice A l.length c) l wr.drew (H.out.below hB.drew) hl)
              have hnl := nw_len (nxB l n b d x q) n
              cases ha : adj l y (x : Int) with
              | true =>
                have HN := Lib.hid (HQY.out x k y hy ha)
                have HPB := Lib.hid (fun L (h : PutI (nw (nxB l n b d x q) n) (x : Int) L) => nx_put hxn h)
                have HPT := Lib.hid (fun (W : World) (hW : W.ownsRow w.heap.size 3 1 (.slice A6 (nw (nxB l n b d x q) n).length c6) (nw (nxB l n b d x q) n).length (cellsI (nw (nxB l n b d x q) n))) (hs : w.heap.size ≤ W.heap.size) => l1Put_own _ (nw (nxB l n b d x q) n) (x : Int) W w.heap.size hW hs (by omega) (nw_asc _ _))
                rw [ha] at HNR
                clear hrow hgb hfb hB hy c5 hq
                generalize (nw (nxB l n b d x q) n) = M2 at *
                go_wp2_with fail
                refine wp_region_held_drew (S := (fun w' : World => w'.cell? ⟨w.heap.size, 0, none⟩ = some (.int .i64 (n : Int)) ∧ w'.cell? ⟨w.heap.size, 1, none⟩ = some (.slice A l.length c) ∧ w'.cell? ⟨w.heap.size + 1, 0, none⟩ = some (.slice (some ⟨g5, o5, none⟩) LB.length c1) ∧ w'.cell? ⟨g5, o5 + k, none⟩ = some (.int .i64 y))) (by kernel_rfl) (by (try dsimp only); simp [*]) (fun hHeld => ?_)
                change wpAnyH _ _ _ _ _ _ #[false, false, false, false, false, false, false, false] _ _
                refine wpAnyH_take (i := 0) (oi := ⟨some 32, _, _, _, _, _⟩) (v := ?_) rfl (by kernel_rfl) (by kernel_rfl) (by kernel_rfl) (fun _ _ _ h => h) (Or.inl ⟨by rfl, ?_⟩) (by assumption) ?_
                rotate_left
                · (intro w hSw; (try dsimp only at hSw); go_simp; (try (with_reducible rfl)))
                try simp only [Act.put, List.setIfInBounds_toArray, List.set_cons_zero, List.set_cons_succ]
                refine wpAnyH_take (i := 1) (oi := ⟨some 33, _, _, _, _, _⟩) (v := ?_) rfl (by kernel_rfl) (by kernel_rfl) (by kernel_rfl) (fun _ _ _ h => h) (Or.inl ⟨by rfl, ?_⟩) (by assumption) ?_
                rotate_left
                · (intro w hSw; (try dsimp only at hSw); go_simp; (try (with_reducible rfl)))
                try simp only [Act.put, List.setIfInBounds_toArray, List.set_cons_zero, List.set_cons_succ]
                refine wpAnyH_take (i := 2) (oi := ⟨some 34, _, _, _, _, _⟩) (v := ?_) rfl (by kernel_rfl) (by kernel_rfl) (by kernel_rfl) (fun _ _ _ h => h) (Or.inl ⟨by rfl, ?_⟩) (by assumption) ?_
                rotate_left
                · (intro w hSw; (try dsimp only at hSw); go_simp; (try (with_reducible rfl)))
                try simp only [Act.put, List.setIfInBounds_toArray, List.set_cons_zero, List.set_cons_succ]
                refine wpAnyH_take (i := 3) (oi := ⟨some 35, _, _, _, _, _⟩) (v := ?_) rfl (by kernel_rfl) (by kernel_rfl) (by kernel_rfl) (fun _ _ _ h => h) (Or.inl ⟨by rfl, ?_⟩) (by assumption) ?_
                rotate_left
                · (intro w hSw; (try dsimp only at hSw); go_simp; (try (with_reducible rfl)))
                try simp only [Act.put, List.setIfInBounds_toArray, List.set_cons_zero, List.set_cons_succ]
                refine wpAnyH_take (i := 4) (oi := ⟨some 36, _, _, _, _, _⟩) (v := ?_) rfl (by kernel_rfl) (by kernel_rfl) (by kernel_rfl) (fun _ _ _ h => h) (Or.inl ⟨by rfl, ?_⟩) (by assumption) ?_
                rotate_left
                · (intro w hSw; (try dsimp only at hSw); go_simp; (try (with_reducible rfl)))
                try simp only [Act.put, List.setIfInBounds_toArray, List.set_cons_zero, List.set_cons_succ]
                refine wpAnyH_take (i := 5) (oi := ⟨some 37, _, _, _, _, _⟩) (v := ?_) rfl (by kernel_rfl) (by kernel_rfl) (by kernel_rfl) (fun _ _ _ h => h) (Or.inl ⟨by rfl, ?_⟩) (by assumption) ?_
                rotate_left
                · (intro w hSw; (try dsimp only at hSw); go_simp; (try (with_reducible rfl)))
                try simp only [Act.put, List.setIfInBounds_toArray, List.set_cons_zero, List.set_cons_succ]
                refine wpAnyH_take (i := 6) (oi := ⟨some 38, _, _, _, _, _⟩) (v := ?_) rfl (by kernel_rfl) (by kernel_rfl) (by kernel_rfl) (fun _ _ _ h => h) (Or.inl ⟨by rfl, ?_⟩) (by assumption) ?_
                rotate_left
                · (intro w hSw; (try dsimp only at hSw); go_simp; (try (with_reducible rfl)))
                try simp only [Act.put, List.setIfInBounds_toArray, List.set_cons_zero, List.set_cons_succ]
                refine wpAnyH_ready (rs := [7]) (by kernel_rfl) (by simp) ?_
                refine AllReadyH.cons (o := ⟨some 39, _, _, _, _, _⟩) rfl (fun K hK => ?_) AllReadyH.nil
                go_simp
                refine HNR.out.mono ?_; rintro e w3 ⟨rfl, b3⟩; have d3 : Below wr.heap.size wr w3 := btrans (Below.refl _ _).drew b3; obtain ⟨k0, k1, -, -⟩ := (HG.out.below d3 HG.out.lt).two; obtain ⟨k2, k3, -, -⟩ := (HF.out.below d3 HF.out.lt).two; have q7 := nearv.cell_keep q5 d3
                go_wp2_with fail
                refine hK.out _ _ (by (try dsimp only); simp [*]) (fun hHeld => ?_)
                clear hK K
                try simp only [List.setIfInBounds_toArray, List.set_cons_zero, List.set_cons_succ]
                refine wpAnyH_done (by kernel_rfl) ?_ _
                have HG3 := Lib.hid (HG.out.below d3 HG.out.lt)
                have HF3 := Lib.hid (HF.out.below d3 HF.out.lt)
                have HB3 := Lib.hid (btrans HW.out d3)
                have HP3 := Lib.hid (HPT.out w3 (own_below HR.out d3) HB3.out.size)
                clear b3 d3 k0 k1 k2 k3 q7 q5 p0 p1 p2 p3 hHeld HPT
                go_wp2_with fail
                refine HP3.out.mono ?_
                rintro e w5 ⟨L, A8, c8, rfl, hpi, o8, b8⟩
                have HLB := Lib.hid (HPB.out L hpi)
                have HB8 := Lib.hid (btrans HB3.out b8)
                have HG8 := Lib.hid (HG3.out.below b8 HG3.out.lt)
                have HF8 := Lib.hid (HF3.out.below b8 HF3.out.lt)
                have HO8 := Lib.hid o8
                clear hpi o8 b8
                go_wp2_with fail
                go_roundg g3
                case measure => omega
                case rel => exact ⟨k + 1, true, _, rfl, by omega, by go_num, HN, by rw [← HLB.out]; exact HO8.out, HG8.out, HF8.out, HB8.out⟩
              | false =>
                have HN := Lib.hid (HQN.out x k q y hq.out hy ha)
                rw [ha] at HNR
                clear hrow hgb hfb hB hy c5 hq
                go_wp2_with fail
                refine wp_region_held_drew (S := (fun w' : World => w'.cell? ⟨w.heap.size, 0, none⟩ = some (.int .i64 (n : Int)) ∧ w'.cell? ⟨w.heap.size, 1, none⟩ = some (.slice A l.length c) ∧ w'.cell? ⟨w.heap.size + 1, 0, none⟩ = some (.slice (some ⟨g5, o5, none⟩) LB.length c1) ∧ w'.cell? ⟨g5, o5 + k, none⟩ = some (.int .i64 y))) (by kernel_rfl) (by (try dsimp only); simp [*]) (fun hHeld => ?_)
                change wpAnyH _ _ _ _ _ _ #[false, false, false, false, false, false, false, false] _ _
                refine wpAnyH_take (i := 0) (oi := ⟨some 32, _, _, _, _, _⟩) (v := ?_) rfl (by kernel_rfl) (by kernel_rfl) (by kernel_rfl) (fun _ _ _ h => h) (Or.inl ⟨by rfl, ?_⟩) (by assumption) ?_
                rotate_left
                · (intro w hSw; (try dsimp only at hSw); go_simp; (try (with_reducible rfl)))
                try simp only [Act.put, List.setIfInBounds_toArray, List.set_cons_zero, List.set_cons_succ]
                refine wpAnyH_take (i := 1) (oi := ⟨some 33, _, _, _, _, _⟩) (v := ?_) rfl (by kernel_rfl) (by kernel_rfl) (by kernel_rfl) (fun _ _ _ h => h) (Or.inl ⟨by rfl, ?_⟩) (by assumption) ?_
                rotate_left
                · (intro w hSw; (try dsimp only at hSw); go_simp; (try (with_reducible rfl)))
                try simp only [Act.put, List.setIfInBounds_toArray, List.set_cons_zero, List.set_cons_succ]
                refine wpAnyH_take (i := 2) (oi := ⟨some 34, _, _, _, _, _⟩) (v := ?_) rfl (by kernel_rfl) (by kernel_rfl) (by kernel_rfl) (fun _ _ _ h => h) (Or.inl ⟨by rfl, ?_⟩) (by assumption) ?_
                rotate_left
                · (intro w hSw; (try dsimp only at hSw); go_simp; (try (with_reducible rfl)))
                try simp only [Act.put, List.setIfInBounds_toArray, List.set_cons_zero, List.set_cons_succ]
                refine wpAnyH_take (i := 3) (oi := ⟨some 35, _, _, _, _, _⟩) (v := ?_) rfl (by kernel_rfl) (by kernel_rfl) (by kernel_rfl) (fun _ _ _ h => h) (Or.inl ⟨by rfl, ?_⟩) (by assumption) ?_
                rotate_left
                · (intro w hSw; (try dsimp only at hSw); go_simp; (try (with_reducible rfl)))
                try simp only [Act.put, List.setIfInBounds_toArray, List.set_cons_zero, List.set_cons_succ]
                refine wpAnyH_take (i := 4) (oi := ⟨some 36, _, _, _, _, _⟩) (v := ?_) rfl (by kernel_rfl) (by kernel_rfl) (by kernel_rfl) (fun _ _ _ h => h) (Or.inl ⟨by rfl, ?_⟩) (by assumption) ?_
                rotate_left
                · (intro w hSw; (try dsimp only at hSw); go_simp; (try (with_reducible rfl)))
                try simp only [Act.put, List.setIfInBounds_toArray, List.set_cons_zero, List.set_cons_succ]
                refine wpAnyH_take (i := 5) (oi := ⟨some 37, _, _, _, _, _⟩) (v := ?_) rfl (by kernel_rfl) (by kernel_rfl) (by kernel_rfl) (fun _ _ _ h => h) (Or.inl ⟨by rfl, ?_⟩) (by assumption) ?_
                rotate_left
                · (intro w hSw; (try dsimp only at hSw); go_simp; (try (with_reducible rfl)))
                try simp only [Act.put, List.setIfInBounds_toArray, List.set_cons_zero, List.set_cons_succ]
                refine wpAnyH_take (i := 6) (oi := ⟨some 38, _, _, _, _, _⟩) (v := ?_) rfl (by kernel_rfl) (by kernel_rfl) (by kernel_rfl) (fun _ _ _ h => h) (Or.inl ⟨by rfl, ?_⟩) (by assumption) ?_
                rotate_left
                · (intro w hSw; (try dsimp only at hSw); go_simp; (try (with_reducible rfl)))
                try simp only [Act.put, List.setIfInBounds_toArray, List.set_cons_zero, List.set_cons_succ]
                refine wpAnyH_ready (rs := [7]) (by kernel_rfl) (by simp) ?_
                refine AllReadyH.cons (o := ⟨some 39, _, _, _, _, _⟩) rfl (fun K hK => ?_) AllReadyH.nil
                go_simp
                refine HNR.out.mono ?_; rintro e w3 ⟨rfl, b3⟩; have d3 : Below wr.heap.size wr w3 := btrans (Below.refl _ _).drew b3; obtain ⟨k0, k1, -, -⟩ := (HG.out.below d3 HG.out.lt).two; obtain ⟨k2, k3, -, -⟩ := (HF.out.below d3 HF.out.lt).two; have q7 := nearv.cell_keep q5 d3
                go_wp2_with fail
                refine hK.out _ _ (by (try dsimp only); simp [*]) (fun hHeld => ?_)
                clear hK K
                try simp only [List.setIfInBounds_toArray, List.set_cons_zero, List.set_cons_succ]
                refine wpAnyH_done (by kernel_rfl) ?_ _
                have HG3 := Lib.hid (HG.out.below d3 HG.out.lt)
                have HF3 := Lib.hid (HF.out.below d3 HF.out.lt)
                have HB3 := Lib.hid (btrans HW.out d3)
                have HR3 := Lib.hid (own_below HR.out d3)
                clear b3 d3 k0 k1 k2 k3 q7 q5 p0 p1 p2 p3 hHeld
                go_wp2_with fail
                go_roundg g3
                case measure => omega
                case rel => exact ⟨k + 1, q, _, rfl, by omega, by go_num, HN, HR3.out, HG3.out, HF3.out, HB3.out⟩
end Go.Proofs.Ytdhbaegkogklgaa.fires

/- The contract of the model's l8Round. -/
namespace Go.Proofs.Ytdhbaegkogklgaa.fires
open Go.RowKit P2 words edges ints good adjs fns sets rets covs balls bitsI bags ups gridr
set_option linter.unusedVariables false

abbrev RowI2 (w : World) (B : Nat) (v : Value) (L : List Int) : Prop := w.ownsRow B 3 1 v L.length (cellsI L)
theorem own_ne2 {w : World} {B O m : Nat} {t t2 : TypeId} {v : Value} {xs : List Value} {cs : Array Value} (h : w.ownsRow B t 1 v m xs) (hO : Blk w O t2 cs) (hne : t ≠ t2) : v.ownBlock ≠ some O := by
  rcases h.2 with ⟨rfl, _⟩ | ⟨g, cap, cur, rfl, _, hg, _⟩
  · simp [Value.ownBlock]
  · intro e
    simp [Value.ownBlock] at e
    subst e
    unfold Blk at hO
    rw [hg] at hO
    cases hO
    exact hne rfl
/-- a store into another block leaves a row -/
theorem RowI2.stored {w : World} {B O : Nat} {v : Value} {L : List Int} {cs : Array Value} (h : RowI2 w B v L) (hO : Blk w O 80 cs) (j : Nat) (u : Value) : RowI2 (w.setCell ⟨O, j, none⟩ u) B v L :=
  World.ownsRow.kept h (gset (World.grownBy.refl w (some O)) j u) (.inr (own_ne2 h hO (by decide)))
theorem putB {n d x : Nat} {L : List Int} (h : PutI (nw (bitB d) n) (x : Int) L) (hx : x < n) : L = nw (bitB (d ||| 2 ^ x)) n :=
  asc_ext h.1 (nw_asc _ _) fun e => by
    rw [h.2.1 e, mem_nw, mem_nw]
    constructor
    · rintro (rfl | ⟨j, hj, hp, rfl⟩)
      · exact ⟨x, hx, by unfold bitB; rw [put_bit]; simp, rfl⟩
      · exact ⟨j, hj, by unfold bitB at hp ⊢; rw [put_bit, hp]; rfl, rfl⟩
    · rintro ⟨j, hj, hp, rfl⟩
      unfold bitB at hp
      rw [put_bit, Bool.or_eq_true, decide_eq_true_iff] at hp
      rcases hp with hp | rfl
      · exact .inr ⟨j, hj, hp, rfl⟩
      · exact .inl rfl
theorem code_nw {n b : Nat} (hb : b < 2 ^ n) : codeL (nw (bitB b) n) = b := by
  apply Nat.eq_of_testBit_eq
  intro j
  rw [code_bit (fun y hy => by obtain ⟨z, _, _, rfl⟩ := mem_nw.1 hy; omega)]
  exact mem_bits hb
/-- what a fire is behind a drawn line -/
def CutR (w wx : World) (a : Value) (n : Nat) (A : Option Addr) (c : Nat) (l : List Ed) (LB LD : List Int) : Prop :=
  ∃ P A5 c5 A6 c6, a = .pointer (some ⟨P, 0, none⟩) ∧ Blk wx P 80 #[.slice A5 LB.length c5, .slice A6 LD.length c6] ∧ RowI2 wx w.heap.size (.slice A5 LB.length c5) LB ∧ RowI2 wx w.heap.size (.slice A6 LD.length c6) LD ∧
    Blk wx w.heap.size 30 #[.int .i64 (n : Int), .slice A l.length c] ∧ Blk wx (w.heap.size + 2) 80 #[.slice none 0 0, .slice none 0 0] ∧ w.heap.size + 2 < P ∧ Below w.heap.size w wx
theorem CutR.put {w w4 : World} {P n c c5 c6 B5 B6 : Nat} {A A5 A6 : Option Addr} {l : List Ed} {LB LD : List Int} (hb : Blk w4 P 80 #[.slice none 0 0, .slice none 0 0]) (h5 : RowI2 w4 B5 (.slice A5 LB.length c5) LB) (h6 : RowI2 w4 B6 (.slice A6 LD.length c6) LD) (e5 : w.heap.size ≤ B5) (e6 : w.heap.size ≤ B6)
    (hg : Blk w4 w.heap.size 30 #[.int .i64 (n : Int), .slice A l.length c]) (hx : Blk w4 (w.heap.size + 2) 80 #[.slice none 0 0, .slice none 0 0]) (hB : Below w.heap.size w w4) (hp : w.heap.size + 2 < P) :
    CutR w ((w4.setCell ⟨P, 0, none⟩ (.slice A5 LB.length c5)).setCell ⟨P, 1, none⟩ (.slice A6 LD.length c6)) (.pointer (some ⟨P, 0, none⟩)) n A c l LB LD := by
  have b1 : Blk (w4.setCell ⟨P, 0, none⟩ (.slice A5 LB.length c5)) P 80 #[.slice A5 LB.length c5, .slice none 0 0] := by
    have h_ := hb.set_ 0 (.slice A5 LB.length c5)
    simpa using h_
  have b2 : Blk ((w4.setCell ⟨P, 0, none⟩ (.slice A5 LB.length c5)).setCell ⟨P, 1, none⟩ (.slice A6 LD.length c6)) P 80 #[.slice A5 LB.length c5, .slice A6 LD.length c6] := by
    have h_ := b1.set_ 1 (.slice A6 LD.length c6)
    simpa using h_
  exact ⟨P, A5, c5, A6, c6, rfl, b2, RowI2.stored (RowI2.stored (own_base h5 e5) hb 0 _) b1 1 _, RowI2.stored (RowI2.stored (own_base h6 e6) hb 0 _) b1 1 _,
    (hg.far (by show w.heap.size ≠ P; omega) _).far (by show w.heap.size ≠ P; omega) _, (hx.far (by show w.heap.size + 2 ≠ P; omega) _).far (by show w.heap.size + 2 ≠ P; omega) _, hp, (hB.setCell (by show w.heap.size ≤ P; omega) _).setCell (by show w.heap.size ≤ P; omega) _⟩
theorem CutR.new {w w4 : World} {n c c5 c6 B5 B6 : Nat} {A A5 A6 : Option Addr} {l : List Ed} {LB LD : List Int} (h5 : RowI2 w4 B5 (.slice A5 LB.length c5) LB) (h6 : RowI2 w4 B6 (.slice A6 LD.length c6) LD) (e5 : w.heap.size ≤ B5) (e6 : w.heap.size ≤ B6)
    (hg : Blk w4 w.heap.size 30 #[.int .i64 (n : Int), .slice A l.length c]) (hx : Blk w4 (w.heap.size + 2) 80 #[.slice none 0 0, .slice none 0 0]) (hB : Below w.heap.size w w4) :
    CutR w (w4.alloc (.cells #[.slice A5 LB.length c5, .slice A6 LD.length c6] 80)) (.pointer (some ⟨w4.heap.size, 0, none⟩)) n A c l LB LD :=
  ⟨w4.heap.size, A5, c5, A6, c6, rfl, Blk.new _ _ _, World.ownsRow.alloc (own_base h5 e5) _, World.ownsRow.alloc (own_base h6 e6) _, hg.alloc _, hx.alloc _, hx.lt, hB.alloc hB.size _⟩
/-- a set and the first k numbers of a list, as a list -/
def stepL (n d : Nat) (xs : List Int) (k : Nat) : List Int := nw (bitB (d ||| codeL (xs.take k))) n
theorem stepL_zero (n d : Nat) (xs : List Int) : stepL n d xs 0 = nw (bitB d) n := by unfold stepL; rw [List.take_zero, show codeL [] = 0 from rfl, Nat.or_zero]
theorem stepL_all (n d : Nat) (xs : List Int) : stepL n d xs xs.length = nw (bitB (d ||| codeL xs)) n := by unfold stepL; rw [List.take_length]
theorem stepL_put {n d k z : Nat} {xs L : List Int} (hy : xs[k]? = some (z : Int)) (hz : z < n) (h : PutI (stepL n d xs k) (z : Int) L) : L = stepL n d xs (k + 1) := by
  have := putB h hz
  rw [this]
  unfold stepL
  rw [code_succ hy, Int.toNat_natCast, Nat.or_assoc]
theorem stepL_len (n d : Nat) (xs : List Int) (k : Nat) : (stepL n d xs k).length ≤ n := nw_len _ _
theorem stepL_asc (n d : Nat) (xs : List Int) (k : Nat) : Asc (stepL n d xs k) := nw_asc _ _
set_option maxHeartbeats 4000000 in
set_option maxRecDepth 100000 in
theorem l8Round_any (n : Nat) (f : Fr) (v Bv Dv u : Value) (l : List Ed) (xs : List Int) (w : World) (h : Edges w v l) (hl : l.length ≤ 1048576) (hf : FrOk n f) (hn : n ≤ 8) (hb : Ints w Bv (nw (bitB f.1) n)) (hd : Ints w Dv (nw (bitB f.2) n)) (hu : Ints w u xs) (hxl : xs.length ≤ 1048576) (hx : ∀ y ∈ xs, 0 ≤ y ∧ y < (n : Int)) :
    Calls Try.prog 95 #[.agg #[.int .i64 (n : Int), v], .agg #[Bv, Dv], u] w fun e w' => ∃ A1 c1 A3 c3, e = .returned (.agg #[.slice A1 (nw (bitB (aftF l n f (codeL xs)).1) n).length c1, .slice A3 (nw (bitB (aftF l n f (codeL xs)).2) n).length c3]) ∧ RowI2 w' w.heap.size (.slice A1 (nw (bitB (aftF l n f (codeL xs)).1) n).length c1) (nw (bitB (aftF l n f (codeL xs)).1) n) ∧ RowI2 w' w.heap.size (.slice A3 (nw (bitB (aftF l n f (codeL xs)).2) n).length c3) (nw (bitB (aftF l n f (codeL xs)).2) n) ∧ Below w.heap.size w w' := by
  obtain ⟨b, d⟩ := f
  have hb2 : b < 2 ^ n := hf.1
  have hd2 : d < 2 ^ n := hf.2
  change Ints w Bv (nw (bitB b) n) at hb
  change Ints w Dv (nw (bitB d) n) at hd
  obtain ⟨A, c, rfl, -⟩ := h.form
  obtain ⟨A1, c1, rfl, -⟩ := hb.form
  obtain ⟨A3, c3, rfl, -⟩ := hd.form
  obtain ⟨A2, c2, rfl, hc2⟩ := hu.form
  have H := Lib.hid h
  have HC2 := Lib.hid hc2
  have HX := Lib.hid hx
  have hnl1 := nw_len (bitB b) n
  have hnl2 := nw_len (bitB d) n
  have HS2 := Lib.hid (code_lt (m := n) hx)
  go_enter Try.func95, Try.ntmps95
  go_wp2_with fail
  have g1 := ((Blk.new w 30 #[.int .i64 (n : Int), .slice A l.length c]).alloc (.cells #[.slice A1 (nw (bitB b) n).length c1, .slice A3 (nw (bitB d) n).length c3] 80)).alloc (.cells #[.slice none 0 0, .slice none 0 0] 80)
  have g2 := (Blk.new (w.alloc (.cells #[.int .i64 (n : Int), .slice A l.length c] 30)) 80 #[.slice A1 (nw (bitB b) n).length c1, .slice A3 (nw (bitB d) n).length c3]).alloc (.cells #[.slice none 0 0, .slice none 0 0] 80)
  rw [World.size_alloc] at g2
  have g3 := Blk.new ((w.alloc (.cells #[.int .i64 (n : Int), .slice A l.length c] 30)).alloc (.cells #[.slice A1 (nw (bitB b) n).length c1, .slice A3 (nw (bitB d) n).length c3] 80)) 80 #[.slice none 0 0, .slice none 0 0]
  rw [World.size_alloc, World.size_alloc] at g3
  have bx : Below w.heap.size w (((w.alloc (.cells #[.int .i64 (n : Int), .slice A l.length c] 30)).alloc (.cells #[.slice A1 (nw (bitB b) n).length c1, .slice A3 (nw (bitB d) n).length c3] 80)).alloc (.cells #[.slice none 0 0, .slice none 0 0] 80)) := (((Below.refl _ _).alloc (Nat.le_refl _) _).alloc (by simp) _).alloc (by rw [World.size_alloc, World.size_alloc]; exact Nat.le_trans (Nat.le_add_right _ _) (Nat.le_add_right _ _)) _
  obtain ⟨wx, hwx⟩ : ∃ wx, wx = ((w.alloc (.cells #[.int .i64 (n : Int), .slice A l.length c] 30)).alloc (.cells #[.slice A1 (nw (bitB b) n).length c1, .slice A3 (nw (bitB d) n).length c3] 80)).alloc (.cells #[.slice none 0 0, .slice none 0 0] 80) := ⟨_, rfl⟩
  rw [← hwx] at g1 g2 g3 bx ⊢
  have HSZ : Hid (w.heap.size + 2 < wx.heap.size) := g3.lt
  have HG1 := Lib.hid g1
  have HG2 := Lib.hid g2
  have HG3 := Lib.hid g3
  have HBX := Lib.hid bx
  have HOB := Lib.hid (fun (W : World) (hW : Below wx.heap.size wx W) => times.l1Own_any (.slice A1 (nw (bitB b) n).length c1) _ W (hb.below (btrans bx hW)) (by omega))
  have HOD := Lib.hid (fun (W : World) (hW : Below wx.heap.size wx W) => times.l1Own_any (.slice A3 (nw (bitB d) n).length c3) _ W (hd.below (btrans bx hW)) (by omega))
  obtain ⟨p2, p3, -, -⟩ := g2.two
  have HSK := Lib.hid (fun (W : World) (hW : Below wx.heap.size wx W) => (⟨(hW.cell (p := ⟨w.heap.size + 1, 0, none⟩) HG2.out.lt).trans p2, (hW.cell (p := ⟨w.heap.size + 1, 1, none⟩) HG2.out.lt).trans p3⟩ : W.cell? ⟨w.heap.size + 1, 0, none⟩ = some (.slice A1 (nw (bitB b) n).length c1) ∧ W.cell? ⟨w.heap.size + 1, 1, none⟩ = some (.slice A3 (nw (bitB d) n).length c3)))
  clear g1 g2 g3 bx hwx hb hd hu hc2 hx hf h
  generalize hLB : nw (bitB b) n = LB at *
  generalize hLD : nw (bitB d) n = LD at *
  have HLB := Lib.hid hLB
  have HLD := Lib.hid hLD
  clear hLB hLD
  go_cut [7] (fun a wy => CutR w wy a n A c l LB LD)
  case first =>
    go_region_held3 (fun w' => w'.cell? ⟨w.heap.size + 1, 0, none⟩ = some (.slice A1 LB.length c1) ∧ w'.cell? ⟨w.heap.size + 1, 1, none⟩ = some (.slice A3 LD.length c3)) (first | go_keep | (refine HSK.out _ ?_; have hz_ := d4.size; have hz2_ := d3.size; have hb_ := d4; go_grown) | (refine HSK.out _ ?_; have hz_ := d3.size; have hb_ := d3; go_grown)) (first
      | (go_at_call 111; have D3 : Below wx.heap.size wx wx.drew := (Below.refl _ _).drew; (with_reducible refine (HOB.out wx.drew D3).mono ?_); rintro e w3 ⟨A5, c5, rfl, o5, b3⟩; have d3 : Below wx.heap.size wx w3 := btrans D3 b3; have z3 := D3.size; have s3 := b3.size)
      | (go_at_call 111; have D3 : Below wx.heap.size wx (wx.alloc (.cells #[.slice none 0 0, .slice none 0 0] 80)).drew := ((Below.refl _ _).alloc (Nat.le_refl _) _).drew; (with_reducible refine (HOB.out (wx.alloc (.cells #[.slice none 0 0, .slice none 0 0] 80)).drew D3).mono ?_); rintro e w3 ⟨A5, c5, rfl, o5, b3⟩; have d3 : Below wx.heap.size wx w3 := btrans D3 b3; have z3 := D3.size; have s3 := b3.size; have B0 : Blk (wx.alloc (.cells #[.slice none 0 0, .slice none 0 0] 80)).drew wx.heap.size 80 #[.slice none 0 0, .slice none 0 0] := Blk.new wx 80 #[.slice none 0 0, .slice none 0 0]; have B6 := B0.below b3 B0.lt; have B6 : Blk _ (wx.heap.size) 80 #[.slice none 0 0, .slice none 0 0] := B6; obtain ⟨Ba, Bb, Bc, Bd⟩ := B6.two; have Be := B6.lt)
      | (go_at_call 111; have D4 : Below w3.heap.size w3 w3 := (Below.refl _ _); (with_reducible refine (HOD.out w3 (btrans d3 D4)).mono ?_); rintro e w4 ⟨A6, c6, rfl, o6, b4⟩; have d4 : Below wx.heap.size wx w4 := btrans d3 (btrans D4 b4); have q5 := own_below o5 (btrans D4 b4); have z4 := D4.size; have s4 := b4.size; have g4 := HG1.out.below d4 HG1.out.lt; have x4 := HG3.out.below d4 HG3.out.lt; have f4 := HG2.out.below d4 HG2.out.lt; obtain ⟨k4, k5, -, -⟩ := f4.two; have e4 := btrans HBX.out d4; (try (have G6 := B6.below b4 B6.lt; obtain ⟨Ga, Gb, Gc, Gd⟩ := G6.two; have Ge := G6.lt)))
      | (go_at_call 111; have D4 : Below w3.heap.size w3 (w3.alloc (.cells #[.slice none 0 0, .slice none 0 0] 80)) := ((Below.refl _ _).alloc (Nat.le_refl _) _); (with_reducible refine (HOD.out (w3.alloc (.cells #[.slice none 0 0, .slice none 0 0] 80)) (btrans d3 D4)).mono ?_); rintro e w4 ⟨A6, c6, rfl, o6, b4⟩; have d4 : Below wx.heap.size wx w4 := btrans d3 (btrans D4 b4); have q5 := own_below o5 (btrans D4 b4); have z4 := D4.size; have s4 := b4.size; have g4 := HG1.out.below d4 HG1.out.lt; have x4 := HG3.out.below d4 HG3.out.lt; have f4 := HG2.out.below d4 HG2.out.lt; obtain ⟨k4, k5, -, -⟩ := f4.two; have e4 := btrans HBX.out d4; have C0 : Blk (w3.alloc (.cells #[.slice none 0 0, .slice none 0 0] 80)) w3.heap.size 80 #[.slice none 0 0, .slice none 0 0] := Blk.new w3 80 #[.slice none 0 0, .slice none 0 0]; have G6 := C0.below b4 C0.lt; have G6 : Blk _ (w3.heap.size) 80 #[.slice none 0 0, .slice none 0 0] := G6; obtain ⟨Ga, Gb, Gc, Gd⟩ := G6.two; have Ge := G6.lt))
    all_goals (go_wp2_with fail; go_meet)
    all_goals
      have y1 := HSZ.out; have y2 := HBX.out.size; have y3 := d3.size
      first
        | exact CutR.new q5 o6 (by omega) (by omega) g4 x4 e4
        | exact CutR.put G6 q5 o6 (by omega) (by omega) g4 x4 e4 (by omega)
  case rest =>
    obtain ⟨P, A5, c5, A6, c6, rfl, bp, r5, r6, bg, bo, hP, eB⟩ := hcut
    have HC := Lib.hid hP
    have HRD : Hid (stepL n d xs xs.length = nw (bitB (aftF l n (b, d) (codeL xs)).2) n) := stepL_all n d xs
    have HTH : Hid (codeL (nw (bitB (thrN l n b (d ||| codeL xs))) n) = thrN l n b (d ||| codeL xs)) := code_nw (num_lt2 _ _)
    have HRB : Hid (stepL n b (nw (bitB (thrN l n b (d ||| codeL xs))) n) (nw (bitB (thrN l n b (d ||| codeL xs))) n).length = nw (bitB (aftF l n (b, d) (codeL xs)).1) n) := by
      show _ = _
      rw [stepL_all, HTH.out]
      rfl
    have HNK := Lib.hid (fun k (y : Int) (hy : (nw (bitB (thrN l n b (d ||| codeL xs))) n)[k]? = some y) => (by
      obtain ⟨z, hz, -, rfl⟩ := mem_nw.1 (List.mem_of_getElem? hy)
      exact ⟨z, rfl, hz⟩ : ∃ z : Nat, y = (z : Int) ∧ z < n))
    have HFO2 : Hid (FrOk n (b, d ||| codeL xs)) := ⟨hb2, or_lt2 hd2 HS2.out⟩
    have HNE := Lib.hid (fun (W : World) (Bv Dv : Value) (hW : Below w.heap.size w W) (h1 : Ints W Bv (nw (bitB b) n)) (h2 : Ints W Dv (nw (bitB (d ||| codeL xs)) n)) => l8Next_any n (b, d ||| codeL xs) (.slice A l.length c) Bv Dv l W (H.out.below hW) hl HFO2.out hn h1 h2)
    have HNL := nw_len (bitB (thrN l n b (d ||| codeL xs))) n
    have HDA : Hid (nw (bitB (d ||| codeL xs)) n = nw (bitB (aftF l n (b, d) (codeL xs)).2) n) := rfl
    change (∀ (W : World) (Bv Dv : Value) (hW : Below w.heap.size w W) (h1 : Ints W Bv (nw (bitB b) n)) (h2 : Ints W Dv (nw (bitB (d ||| codeL xs)) n)), Calls _ _ _ W (RowI W (nw (bitB (thrN l n b (d ||| codeL xs))) n))) at HNE
    rw [HLB.out] at HNE
    simp only [HDA.out] at HNE
    have HL0 : Hid (stepL n d xs 0 = LD) := (stepL_zero n d xs).trans HLD.out
    have HB0 : Hid (stepL n b (nw (bitB (thrN l n b (d ||| codeL xs))) n) 0 = LB) := (stepL_zero n b _).trans HLB.out
    clear HTH HFO2 HDA HLB HLD HS2 hb2 hd2
    generalize hRBe : nw (bitB (aftF l n (b, d) (codeL xs)).1) n = RB at *
    generalize hRDe : nw (bitB (aftF l n (b, d) (codeL xs)).2) n = RD at *
    have HEB := Lib.hid hRBe
    have HED := Lib.hid hRDe
    clear hRBe hRDe
    generalize nw (bitB (thrN l n b (d ||| codeL xs))) n = NX at *
    have HBP : Hid (Blk wc P 80 #[.slice A5 LB.length c5, .slice A6 (stepL n d xs 0).length c6]) := by
      show Blk _ _ _ _
      rw [HL0.out]; exact bp
    have HR5 := Lib.hid r5
    have HR6 := Lib.hid r6
    have HG := Lib.hid bg
    have HO := Lib.hid bo
    have HE := Lib.hid eB
    clear bp r5 r6 bg bo eB
    go_wp2_with fail
    go_loopg [8] xs.length (fun g iv wr => ∃ (k : Nat) (A6 : Option Addr) (c6 : Nat), k + g = xs.length ∧ iv = .int .i64 (k : Int) ∧ Blk wr P 80 #[.slice A5 LB.length c5, .slice A6 (stepL n d xs k).length c6] ∧ RowI2 wr w.heap.size (.slice A5 LB.length c5) LB ∧ RowI2 wr w.heap.size (.slice A6 (stepL n d xs k).length c6) (stepL n d xs k) ∧ Blk wr w.heap.size 30 #[.int .i64 (n : Int), .slice A l.length c] ∧ Blk wr (w.heap.size + 2) 80 #[.slice none 0 0, .slice none 0 0] ∧ Below w.heap.size w wr)
    case atStart => exact ⟨0, A6, c6, by omega, rfl, HBP.out, HR5.out, by rw [HL0.out]; exact HR6.out, HG.out, HO.out, HE.out⟩
    case round =>
      clear HBP HR5 HR6 HG HO HE
      obtain ⟨k, A6, c6, hkg, rfl, bp, r5, r6, bg, bo, eB⟩ := hrel
      have HBP := Lib.hid bp
      have HR5 := Lib.hid r5
      have HR6 := Lib.hid r6
      have HG := Lib.hid bg
      have HO := Lib.hid bo
      have HE := Lib.hid eB
      obtain ⟨p0, p1, -, -⟩ := bg.two
      obtain ⟨m0, m1, y0, y1⟩ := bp.two
      cases gk with
      | zero =>
        obtain rfl : k = xs.length := by omega
        rw [HRD.out] at m1 HBP HR6 r6
        have HN := Lib.hid (HNE wr (.slice A5 LB.length c5) (.slice A6 RD.length c6) eB (Reads.of_own r5) (Reads.of_own r6))
        clear bp r5 r6 bg bo eB HNE
        go_wp2_with fail
        refine HN.out.mono ?_
        rintro e w2 ⟨A9, c9, rfl, o9, b9⟩
        have HBP2 : Hid (Blk w2 P 80 #[.slice A5 (stepL n b NX 0).length c5, .slice A6 RD.length c6]) := by
          show Blk _ _ _ _
          rw [HB0.out]; exact HBP.out.below b9 HBP.out.lt
        have HR52 : Hid (RowI2 w2 w.heap.size (.slice A5 (stepL n b NX 0).length c5) (stepL n b NX 0)) := by
          show RowI2 _ _ _ _
          rw [HB0.out]; exact own_below HR5.out b9
        have HR62 : Hid (RowI2 w2 w.heap.size (.slice A6 RD.length c6) RD) := own_below HR6.out b9
        have HG2 := Lib.hid (HG.out.below b9 HG.out.lt)
        have HO2 := Lib.hid (HO.out.below b9 HO.out.lt)
        have HE2 := Lib.hid (btrans HE.out b9)
        have HN2 : Hid (RowI2 w2 w.heap.size (.slice A9 NX.length c9) NX) := own_base o9 HE.out.size
        clear o9 b9 p0 p1 m0 m1 y0 y1 HBP HR5 HR6 HG HO HE HN
        go_wp2_with fail
        go_loopg [10] NX.length (fun g iv wr => ∃ (k : Nat) (A5 : Option Addr) (c5 : Nat), k + g = NX.length ∧ iv = .int .i64 (k : Int) ∧ Blk wr P 80 #[.slice A5 (stepL n b NX k).length c5, .slice A6 RD.length c6] ∧ RowI2 wr w.heap.size (.slice A5 (stepL n b NX k).length c5) (stepL n b NX k) ∧ RowI2 wr w.heap.size (.slice A6 RD.length c6) RD ∧ RowI2 wr w.heap.size (.slice A9 NX.length c9) NX ∧ Blk wr (w.heap.size + 2) 80 #[.slice none 0 0, .slice none 0 0] ∧ Below w.heap.size w wr)
        case atStart => exact ⟨0, A5, c5, by omega, rfl, HBP2.out, HR52.out, HR62.out, HN2.out, HO2.out, HE2.out⟩
        case round =>
          clear HBP2 HR52 HR62 HG2 HO2 HE2 HN2
          obtain ⟨k, A5, c5, hkg, rfl, bp, r5, r6, rn, bo, eB⟩ := hrel
          have HBP := Lib.hid bp
          have HR5 := Lib.hid r5
          have HR6 := Lib.hid r6
          have HRN := Lib.hid rn
          have HO := Lib.hid bo
          have HE := Lib.hid eB
          obtain ⟨m0, m1, y0, y1⟩ := bp.two
          cases gk with
          | zero =>
            obtain rfl : k = NX.length := by omega
            rw [HRB.out] at m0 HBP HR5
            have HO3 : Hid (Blk wr (w.heap.size + 1 + 1) 80 #[.slice none 0 0, .slice none 0 0]) := bo
            obtain ⟨x0, x1, z0, z1⟩ := (show Blk wr (w.heap.size + 1 + 1) 80 #[.slice none 0 0, .slice none 0 0] from bo).two
            have hb1 : Blk (wr.setCell ⟨w.heap.size + 1 + 1, 0, none⟩ (.slice A5 RB.length c5)) (w.heap.size + 1 + 1) 80 #[.slice A5 RB.length c5, .slice none 0 0] := by
              have h_ := HO3.out.set_ 0 (.slice A5 RB.length c5)
              simpa using h_
            have hb2 : Blk ((wr.setCell ⟨w.heap.size + 1 + 1, 0, none⟩ (.slice A5 RB.length c5)).setCell ⟨w.heap.size + 1 + 1, 1, none⟩ (.slice A6 RD.length c6)) (w.heap.size + 1 + 1) 80 #[.slice A5 RB.length c5, .slice A6 RD.length c6] := by
              have h_ := hb1.set_ 1 (.slice A6 RD.length c6)
              simpa using h_
            have HB1 := Lib.hid hb1
            have HB2 := Lib.hid hb2
            have HSB : Hid (Below w.heap.size w ((wr.setCell ⟨w.heap.size + 1 + 1, 0, none⟩ (.slice A5 RB.length c5)).setCell ⟨w.heap.size + 1 + 1, 1, none⟩ (.slice A6 RD.length c6))) := (HE.out.setCell (by show w.heap.size ≤ w.heap.size + 1 + 1; exact Nat.le_trans (Nat.le_add_right _ _) (Nat.le_add_right _ _)) _).setCell (by show w.heap.size ≤ w.heap.size + 1 + 1; exact Nat.le_trans (Nat.le_add_right _ _) (Nat.le_add_right _ _)) _
            have HS5 := Lib.hid (RowI2.stored (RowI2.stored HR5.out HO3.out 0 (.slice A5 RB.length c5)) hb1 1 (.slice A6 RD.length c6))
            have HS6 := Lib.hid (RowI2.stored (RowI2.stored HR6.out HO3.out 0 (.slice A5 RB.length c5)) hb1 1 (.slice A6 RD.length c6))
            clear bp r5 r6 rn bo eB hb1 hb2
            go_wp2_with fail
            obtain ⟨q0, q1, -, -⟩ := HB2.out.two
            refine bodyPost_ret (v := .agg #[.slice A5 RB.length c5, .slice A6 RD.length c6]) (by simp [results, Try.results95, go_sem, q0, q1]) rfl (by rw [HEB.out, HED.out]; exact ⟨A5, c5, A6, c6, rfl, HS5.out, HS6.out, HSB.out⟩)
          | succ g2 =>
            have hlt : k < NX.length := by omega
            have hlt' : (k : Int) < (NX.length : Int) := by omega
            obtain ⟨y', hy⟩ : ∃ y, NX[k]? = some y := ⟨_, List.getElem?_eq_getElem hlt⟩
            obtain ⟨z, rfl, hzn⟩ := HNK.out k y' hy
            obtain ⟨_, _, hf9, hcc⟩ := (show Ints wr (.slice A9 NX.length c9) NX from Reads.of_own rn).form
            cases hf9
            obtain ⟨g9, o9, rfl, q9⟩ := hcc k _ hy
            have hsl := stepL_len n b NX k
            have HPT := Lib.hid (l1Put_own (.slice A5 (stepL n b NX k).length c5) (stepL n b NX k) (z : Int) wr.drew w.heap.size (own_below r5 (Below.refl _ _).drew) eB.drew.size (by omega) (stepL_asc _ _ _ _))
            have HPE := Lib.hid (fun L (h : PutI (stepL n b NX k) (z : Int) L) => stepL_put hy hzn h)
            clear bp r5 r6 rn bo eB hcc hy
            go_wp2_with fail
            go_region_with (go_at_call 110; (with_reducible refine HPT.out.mono ?_); rintro e w5 ⟨L, A8, c8, rfl, hpi, o8, b8⟩; have d8 : Below wr.heap.size wr w5 := btrans (Below.refl _ _).drew b8; obtain ⟨j0, j1, z0, z1⟩ := (HBP.out.below d8 HBP.out.lt).two)
            all_goals
              have HLE := Lib.hid (HPE.out L hpi)
              have b5_ := HBP.out.below d8 HBP.out.lt
              have hb1 : Blk (w5.setCell ⟨P, 0, none⟩ (.slice A8 L.length c8)) P 80 #[.slice A8 L.length c8, .slice A6 RD.length c6] := by
                have h_ := b5_.set_ 0 (.slice A8 L.length c8)
                simpa using h_
              have HBP2 := Lib.hid hb1
              have HR52 := Lib.hid (RowI2.stored (show RowI2 w5 w.heap.size (.slice A8 L.length c8) L from o8) b5_ 0 (.slice A8 L.length c8))
              have HR62 := Lib.hid (RowI2.stored (show RowI2 w5 w.heap.size (.slice A6 RD.length c6) RD from own_below HR6.out d8) b5_ 0 (.slice A8 L.length c8))
              have HRN2 := Lib.hid (RowI2.stored (show RowI2 w5 w.heap.size (.slice (some ⟨g9, o9, none⟩) NX.length c9) NX from own_below HRN.out d8) b5_ 0 (.slice A8 L.length c8))
              have HO2 := Lib.hid ((HO.out.below d8 HO.out.lt).far (p := ⟨P, 0, none⟩) (by have := HC.out; show w.heap.size + 2 ≠ P; omega) (.slice A8 L.length c8))
              have HE2 := Lib.hid ((btrans HE.out d8).setCell (p := ⟨P, 0, none⟩) (by have := HC.out; show w.heap.size ≤ P; omega) (.slice A8 L.length c8))
              clear hpi o8 b8 d8 b5_ hb1 j0 j1 z0 z1 m0 m1 y0 y1 q9
              generalize w5.setCell ⟨P, 0, none⟩ (.slice A8 L.length c8) = w6 at *
              go_wp2_with fail
              go_roundg g2
              case measure => omega
              case rel => exact ⟨k + 1, A8, c8, by omega, by go_num, by rw [← HLE.out]; exact HBP2.out, by rw [← HLE.out]; exact HR52.out, HR62.out, HRN2.out, HO2.out, HE2.out⟩
      | succ g2 =>
        have hlt : k < xs.length := by omega
        have hlt' : (k : Int) < (xs.length : Int) := by omega
        obtain ⟨y', hy⟩ : ∃ y, xs[k]? = some y := ⟨_, List.getElem?_eq_getElem hlt⟩
        have hyr := HX.out y' (List.mem_of_getElem? hy)
        obtain ⟨z, rfl⟩ : ∃ y : Nat, y' = (y : Int) := ⟨y'.toNat, by omega⟩
        have hzn : z < n := by omega
        obtain ⟨g5, o5, rfl, c5_⟩ := HC2.out k _ hy
        have q5 := nearv.cell_keep c5_ eB
        have hsl := stepL_len n d xs k
        have HPT := Lib.hid (l1Put_own (.slice A6 (stepL n d xs k).length c6) (stepL n d xs k) (z : Int) wr.drew w.heap.size (own_below r6 (Below.refl _ _).drew) eB.drew.size (by omega) (stepL_asc _ _ _ _))
        have HPE := Lib.hid (fun L (h : PutI (stepL n d xs k) (z : Int) L) => stepL_put hy hzn h)
        clear bp r5 r6 bg bo eB hy c5_ HNE hyr
        go_wp2_with fail
        go_region_with (go_at_call 110; (with_reducible refine HPT.out.mono ?_); rintro e w5 ⟨L, A8, c8, rfl, hpi, o8, b8⟩; have d8 : Below wr.heap.size wr w5 := btrans (Below.refl _ _).drew b8; obtain ⟨j0, j1, z0, z1⟩ := (HBP.out.below d8 HBP.out.lt).two)
        all_goals
          have HLE := Lib.hid (HPE.out L hpi)
          have b5_ := HBP.out.below d8 HBP.out.lt
          have hb1 : Blk (w5.setCell ⟨P, 1, none⟩ (.slice A8 L.length c8)) P 80 #[.slice A5 LB.length c5, .slice A8 L.length c8] := by
            have h_ := b5_.set_ 1 (.slice A8 L.length c8)
            simpa using h_
          have HBP2 := Lib.hid hb1
          have HR62 := Lib.hid (RowI2.stored (show RowI2 w5 w.heap.size (.slice A8 L.length c8) L from o8) b5_ 1 (.slice A8 L.length c8))
          have HR52 := Lib.hid (RowI2.stored (show RowI2 w5 w.heap.size (.slice A5 LB.length c5) LB from own_below HR5.out d8) b5_ 1 (.slice A8 L.length c8))
          have HG2 := Lib.hid ((HG.out.below d8 HG.out.lt).far (p := ⟨P, 1, none⟩) (by have := HC.out; show w.heap.size ≠ P; omega) (.slice A8 L.length c8))
          have HO2 := Lib.hid ((HO.out.below d8 HO.out.lt).far (p := ⟨P, 1, none⟩) (by have := HC.out; show w.heap.size + 2 ≠ P; omega) (.slice A8 L.length c8))
          have HE2 := Lib.hid ((btrans HE.out d8).setCell (p := ⟨P, 1, none⟩) (by have := HC.out; show w.heap.size ≤ P; omega) (.slice A8 L.length c8))
          clear hpi o8 b8 d8 b5_ hb1 j0 j1 z0 z1 m0 m1 y0 y1 q5 p0 p1
          generalize w5.setCell ⟨P, 1, none⟩ (.slice A8 L.length c8) = w6 at *
          go_wp2_with fail
          go_roundg g2
          case measure => omega
          case rel => exact ⟨k + 1, A8, c8, by omega, by go_num, by rw [← HLE.out]; exact HBP2.out, HR52.out, by rw [← HLE.out]; exact HR62.out, HG2.out, HO2.out, HE2.out⟩
end Go.Proofs.Ytdhbaegkogklgaa.fires

/- The contracts of the model's l8Good, l8Plan and IsFirePlan. -/
namespace Go.Proofs.Ytdhbaegkogklgaa.fires
open Go.RowKit P2 words edges ints good adjs fns sets rets covs balls bitsI bags ups gridr
set_option linter.unusedVariables false

theorem apL_iff {n : Nat} {f : Fr} {r : List Int} (hr : ∀ y ∈ r, 0 ≤ y ∧ y < (n : Int)) : ApL f.1 f.2 r r.length ↔ apB n f (codeL r) := by
  rw [apB_iff (code_lt (m := n) hr)]
  constructor
  · intro h y hy
    rw [code_bit (fun y hy => (hr y hy).1), decide_eq_true_iff] at hy
    obtain ⟨j, hj⟩ := List.getElem?_of_mem hy
    have := h j _ (List.getElem?_eq_some_iff.1 hj).1 hj
    rwa [Int.toNat_natCast] at this
  · intro h j y hj hy
    refine h y.toNat ?_
    have hm := List.mem_of_getElem? hy
    have := hr y hm
    rw [code_bit (fun y hy => (hr y hy).1), decide_eq_true_iff, Int.toNat_of_nonneg this.1]
    exact hm
theorem fireP_iff {s start d : Int} {l : List Ed} : FireP s l start d ↔ P2.Good s l ∧ inB start 0 (s - 1) = true ∧ inB d 0 3 = true := by
  unfold FireP inB
  rw [nodesB_iff, decide_eq_true_iff, decide_eq_true_iff]
  constructor
  · rintro ⟨⟨h1, h2⟩, h3, h4⟩
    have := h2 start (by simp)
    exact ⟨h1, ⟨this.1, by omega⟩, h3, h4⟩
  · rintro ⟨h1, h2, h3, h4⟩
    exact ⟨⟨h1, fun y hy => by rw [List.mem_singleton] at hy; subst hy; omega⟩, h3, h4⟩
set_option maxHeartbeats 1000000 in
set_option maxRecDepth 100000 in
theorem l8Good_any (s start d : Int) (v : Value) (l : List Ed) (w : World) (h : Edges w v l) (hl : l.length ≤ 1048576) (hs1 : -9223372036854775808 ≤ s) (hs2 : s ≤ 9223372036854775807) :
    Calls Try.prog 60 #[.agg #[.int .i64 s, v], .int .i64 start, .int .i64 d] w fun e w' => e = .returned (.bool (okG (FireP s l start d))) ∧ Below w.heap.size w w' := by
  obtain ⟨A, c, rfl, -⟩ := h.form
  have H := Lib.hid h
  have b0 : Below w.heap.size w (w.alloc (.cells #[.int .i64 s, .slice A l.length c] 30)) := (Below.refl _ _).alloc (Nat.le_refl _) _
  have g0 := Blk.new w 30 #[.int .i64 s, .slice A l.length c]
  obtain ⟨p0, p1, -, -⟩ := g0.two
  have HGD := Lib.hid (l2Good_any s _ l _ (h.below b0) hl hs1 hs2)
  have HB0 := Lib.hid b0
  have HG0 := Lib.hid g0
  clear h b0 g0
  by_cases hgd : P2.Good s l
  · rw [goodB_yes hgd] at HGD
    have h0 := hgd.1
    have h8 := hgd.2.1
    have HND := Lib.hid (fun (W : World) (hW : Below w.heap.size w W) => l2Node_any s start (.slice A l.length c) l W (H.out.below hW) (by omega) (by omega))
    have HIN := Lib.hid (fun (W : World) => l1In_any d 0 3 W)
    cases hn : inB start 0 (s - 1) with
    | true =>
      rw [hn] at HND
      have HV : Hid (okG (FireP s l start d) = inB d 0 3) := by
        show _ = _
        cases hd : inB d 0 3 with
        | true => exact okG_yes (fireP_iff.2 ⟨hgd, hn, hd⟩)
        | false => exact okG_no fun h => by have := (fireP_iff.1 h).2.2; rw [hd] at this; cases this
      clear hgd hn
      go_enter Try.func60, Try.ntmps60
      go_wp2_with fail
      refine HGD.out.mono ?_
      rintro e w1 ⟨rfl, b1⟩
      have HE1 := Lib.hid (btrans HB0.out b1)
      have HG1 := Lib.hid (HG0.out.below b1 HG0.out.lt)
      have HL1 := Lib.hid (HND.out w1 HE1.out)
      clear p0 p1 b1 HGD HB0 HG0
      obtain ⟨p0, p1, -, -⟩ := HG1.out.two
      go_wp2_with fail
      refine HL1.out.mono ?_
      rintro e w2 ⟨rfl, b2⟩
      have HE2 := Lib.hid (btrans HE1.out b2)
      go_wp2_with fail
      refine (HIN.out w2).mono ?_
      rintro e w3 ⟨rfl, rfl⟩
      go_wp2_with fail
      go_ret
      rw [HV.out]
      exact ⟨rfl, HE2.out⟩
    | false =>
      rw [hn] at HND
      have HV : Hid (okG (FireP s l start d) = false) := okG_no fun h => by have := (fireP_iff.1 h).2.1; rw [hn] at this; cases this
      clear hgd hn
      go_enter Try.func60, Try.ntmps60
      go_wp2_with fail
      refine HGD.out.mono ?_
      rintro e w1 ⟨rfl, b1⟩
      have HE1 := Lib.hid (btrans HB0.out b1)
      have HG1 := Lib.hid (HG0.out.below b1 HG0.out.lt)
      have HL1 := Lib.hid (HND.out w1 HE1.out)
      clear p0 p1 b1 HGD HB0 HG0
      obtain ⟨p0, p1, -, -⟩ := HG1.out.two
      go_wp2_with fail
      refine HL1.out.mono ?_
      rintro e w2 ⟨rfl, b2⟩
      have HE2 := Lib.hid (btrans HE1.out b2)
      go_wp2_with fail
      go_ret
      rw [HV.out]
      exact ⟨rfl, HE2.out⟩
  · rw [goodB_no hgd] at HGD
    have HV : Hid (okG (FireP s l start d) = false) := okG_no fun h => hgd (fireP_iff.1 h).1
    clear hgd
    go_enter Try.func60, Try.ntmps60
    go_wp2_with fail
    refine HGD.out.mono ?_
    rintro e w1 ⟨rfl, b1⟩
    have HE1 := Lib.hid (btrans HB0.out b1)
    go_wp2_with fail
    go_ret
    rw [HV.out]
    exact ⟨rfl, HE1.out⟩
theorem nw_one {n x : Nat} (hx : x < n) : nw (bitB (2 ^ x)) n = [(x : Int)] :=
  asc_ext (nw_asc _ _) (by unfold Asc; simp) fun e => by
    rw [mem_nw, List.mem_singleton]
    constructor
    · rintro ⟨j, _, hp, rfl⟩
      unfold bitB at hp
      rw [Nat.testBit_two_pow, decide_eq_true_iff] at hp
      rw [hp]
    · rintro rfl
      exact ⟨x, hx, by unfold bitB; rw [Nat.testBit_two_pow]; simp, rfl⟩
theorem nw_zero (n : Nat) : nw (bitB 0) n = [] := by
  unfold nw
  rw [List.map_eq_nil_iff, List.filter_eq_nil_iff]
  intro y _
  unfold bitB
  simp
def lB (l : List Ed) (n x : Nat) (rows : List (List Int)) (k : Nat) : List Int := nw (bitB (stF l n x rows k).1) n
def lD (l : List Ed) (n x : Nat) (rows : List (List Int)) (k : Nat) : List Int := nw (bitB (stF l n x rows k).2) n
end Go.Proofs.Ytdhbaegkogklgaa.fires

/- Guards: the contracts of the model's LeastDominating. -/
namespace Go.Proofs.Ytdhbaegkogklgaa.ups
open Go.RowKit P2 words edges ints good adjs fns sets rets covs bags balls bitsI func costs
set_option linter.unusedVariables false

theorem code_nwD {n b : Nat} (hb : b < 2 ^ n) : codeL (nw (bitB b) n) = b := by
  have hs : ∀ x ∈ nw (bitB b) n, (0 : Int) ≤ x := fun x hx => by obtain ⟨j, _, _, rfl⟩ := mem_nw.1 hx; omega
  apply Nat.eq_of_testBit_eq
  intro i
  rw [code_bit hs, Bool.eq_iff_iff, decide_eq_true_iff, mem_nw]
  constructor
  · rintro ⟨j, _, hp, e⟩
    have : i = j := by omega
    subst this; exact hp
  · intro h
    refine ⟨i, ?_, h, rfl⟩
    by_cases e : i < n
    · exact e
    · rw [Nat.testBit_lt_two_pow (Nat.lt_of_lt_of_le hb (Nat.pow_le_pow_right (by decide) (by omega)))] at h
      cases h
theorem ld_len (s : Int) (l : List Ed) : (inG (P2.Good s l) (ndN (ldN s.toNat l))).length ≤ 1048576 := inG_len fun _ => by
  unfold ndN
  have := nw_len (bitB (ldN s.toNat l)) 8
  omega
end Go.Proofs.Ytdhbaegkogklgaa.ups

/- Best fire plans: the contracts of the model's l8Free and l8Best. -/
namespace Go.Proofs.Ytdhbaegkogklgaa.fires
open Go.RowKit P2 words edges ints owns good adjs fns sets rets covs balls bitsI bags ups grid gridr gridl minmax
set_option linter.unusedVariables false

set_option maxHeartbeats 4000000 in
set_option maxRecDepth 100000 in
theorem l8Free_any (n : Nat) (f : Fr) (v Bv Dv : Value) (w : World) (hf : FrOk n f) (hn : n ≤ 8) (hb : Ints w Bv (nw (bitB f.1) n)) (hd : Ints w Dv (nw (bitB f.2) n)) :
    Calls Try.prog 93 #[.agg #[.int .i64 (n : Int), v], .agg #[Bv, Dv]] w (RowI w (nw (opB f) n)) := by
  obtain ⟨b, d⟩ := f
  have hb2 : b < 2 ^ n := hf.1
  have hd2 : d < 2 ^ n := hf.2
  change Ints w Bv (nw (bitB b) n) at hb
  change Ints w Dv (nw (bitB d) n) at hd
  obtain ⟨A1, c1, rfl, -⟩ := hb.form
  obtain ⟨A3, c3, rfl, -⟩ := hd.form
  have hnl1 := nw_len (bitB b) n
  have hnl2 := nw_len (bitB d) n
  have HHB := Lib.hid (fun (x : Nat) (W : World) (hW : Below w.heap.size w W) => (by have h_ := l1Has_any (.slice A1 (nw (bitB b) n).length c1) (nw (bitB b) n) (x : Int) W (hb.below hW) (by omega); rw [mem_bits hb2] at h_; exact h_ : Calls Try.prog 37 #[.slice A1 (nw (bitB b) n).length c1, .int .i64 (x : Int)] W fun e w' => e = .returned (.bool (b.testBit x)) ∧ W = w'))
  have HHD := Lib.hid (fun (x : Nat) (W : World) (hW : Below w.heap.size w W) => (by have h_ := l1Has_any (.slice A3 (nw (bitB d) n).length c3) (nw (bitB d) n) (x : Int) W (hd.below hW) (by omega); rw [mem_bits hd2] at h_; exact h_ : Calls Try.prog 37 #[.slice A3 (nw (bitB d) n).length c3, .int .i64 (x : Int)] W fun e w' => e = .returned (.bool (d.testBit x)) ∧ W = w'))
  obtain ⟨i0, hi, hz0, hz1, hz2⟩ := info_parts infoInt
  obtain ⟨W0, hW0⟩ : ∃ W0, W0 = ((w.alloc (.cells #[.int .i64 (n : Int), v] 30)).alloc (.cells #[.slice A1 (nw (bitB b) n).length c1, .slice A3 (nw (bitB d) n).length c3] 80)).alloc (.cells #[] 3) := ⟨_, rfl⟩
  have b0 : Below w.heap.size w W0 := by rw [hW0]; exact (((Below.refl _ _).alloc (Nat.le_refl _) _).alloc (by simp) _).alloc (by simp; omega) _
  have g1 : Blk W0 w.heap.size 30 #[.int .i64 (n : Int), v] := by rw [hW0]; exact ((Blk.new w 30 #[.int .i64 (n : Int), v]).alloc _).alloc _
  have g2 : Blk W0 (w.heap.size + 1) 80 #[.slice A1 (nw (bitB b) n).length c1, .slice A3 (nw (bitB d) n).length c3] := by
    have h_ := (Blk.new (w.alloc (.cells #[.int .i64 (n : Int), v] 30)) 80 #[.slice A1 (nw (bitB b) n).length c1, .slice A3 (nw (bitB d) n).length c3]).alloc (.cells #[] 3)
    rw [World.size_alloc] at h_
    rw [hW0]; exact h_
  have o0 : W0.ownsRow w.heap.size 3 1 (.slice (some ⟨w.heap.size + 1 + 1, 0, none⟩) 0 0) 0 [] := by
    have h_ := own_new0 ((w.alloc (.cells #[.int .i64 (n : Int), v] 30)).alloc (.cells #[.slice A1 (nw (bitB b) n).length c1, .slice A3 (nw (bitB d) n).length c3] 80)) 3 1
    rw [World.size_alloc, World.size_alloc] at h_
    rw [hW0]; exact own_base h_ (by omega)
  have HB0 := Lib.hid b0
  have HG1 := Lib.hid g1
  have HG2 := Lib.hid g2
  have HO0 := Lib.hid o0
  have HW0 := Lib.hid hW0
  have HPL : Hid (∀ i, (nw (opB (b, d)) i).length ≤ i) := fun i => nw_len _ _
  have HPY := Lib.hid (fun (x : Nat) (h : opB (b, d) x = true) => nw_yes h)
  have HPN := Lib.hid (fun (x : Nat) (h : opB (b, d) x = false) => nw_no h)
  have HOP : Hid (∀ x, opB (b, d) x = (!b.testBit x && !d.testBit x)) := fun x => rfl
  clear b0 g1 g2 o0 hW0 hb hd hf
  show Calls _ _ _ _ (RowI w (nw (opB (b, d)) n))
  generalize nw (bitB b) n = LB at *
  generalize nw (bitB d) n = LD at *
  generalize opB (b, d) = PO at *
  go_enter Try.func93, Try.ntmps93
  go_wp2_with fail
  rw [← HW0.out]
  go_loopg [5, 6] n (fun g ov xv wr => ∃ (x : Nat) (ow : Value), ow = ov ∧ x + g = n ∧ xv = .int .i64 (x : Int) ∧ wr.ownsRow w.heap.size 3 1 ow (nw PO x).length (cellsI (nw PO x)) ∧ Blk wr w.heap.size 30 #[.int .i64 (n : Int), v] ∧ Blk wr (w.heap.size + 1) 80 #[.slice A1 LB.length c1, .slice A3 LD.length c3] ∧ Below w.heap.size w wr)
  case atStart => exact ⟨0, _, rfl, by omega, rfl, HO0.out, HG1.out, HG2.out, HB0.out⟩
  case round =>
    clear HO0 HG1 HG2 HB0
    obtain ⟨x, ow, rfl, hxg, rfl, hrow, hg1, hg2, hB⟩ := hrel
    obtain ⟨A4, c4, rfl⟩ := own_form hrow
    obtain ⟨p0, p1, -, -⟩ := hg1.two
    obtain ⟨q0, q1, -, -⟩ := hg2.two
    have HB := Lib.hid hB
    have HG1 := Lib.hid hg1
    have HG2 := Lib.hid hg2
    have HR := Lib.hid hrow
    cases gk with
    | zero =>
      obtain rfl : x = n := by omega
      clear hrow hg1 hg2 hB
      go_wp2_with fail
      go_ret
      exact ⟨A4, c4, rfl, HR.out, HB.out⟩
    | succ g2 =>
      have hlt : x < n := by omega
      have hlt' : (x : Int) < (n : Int) := by omega
      have HH1 := Lib.hid (HHB.out x wr HB.out)
      have HH2 := Lib.hid (HHD.out x wr HB.out)
      have hop := HOP.out x
      have hpx := HPL.out x
      cases hb1 : b.testBit x with
      | true =>
        rw [hb1] at HH1 hop
        have HN := Lib.hid (HPN.out x hop)
        clear hb1 hop hrow hg1 hg2 hB
        go_wp2_with fail
        refine HH1.out.mono ?_
        rintro e w' ⟨rfl, rfl⟩
        go_wp2_with fail
        go_roundg g2
        case measure => omega
        case rel => exact ⟨x + 1, _, rfl, by omega, by go_num, by rw [HN.out]; exact HR.out, HG1.out, HG2.out, HB.out⟩
      | false =>
        rw [hb1] at HH1 hop
        cases hb3 : d.testBit x with
        | true =>
          rw [hb3] at HH2 hop
          have HN := Lib.hid (HPN.out x hop)
          clear hb1 hb3 hop hrow hg1 hg2 hB
          go_wp2_with fail
          refine HH1.out.mono ?_
          rintro e w' ⟨rfl, rfl⟩
          go_wp2_with fail
          refine HH2.out.mono ?_
          rintro e w' ⟨rfl, rfl⟩
          go_wp2_with fail
          go_roundg g2
          case measure => omega
          case rel => exact ⟨x + 1, _, rfl, by omega, by go_num, by rw [HN.out]; exact HR.out, HG1.out, HG2.out, HB.out⟩
        | false =>
          rw [hb3] at HH2 hop
          have HN := Lib.hid (HPY.out x hop)
          have hsz := hB.size
          clear hb1 hb3 hop hrow hg1 hg2 hB
          generalize hPI : nw PO x = Pi at *
          go_wp2_with fail
          refine HH1.out.mono ?_
          rintro e w' ⟨rfl, rfl⟩
          go_wp2_with fail
          refine HH2.out.mono ?_
          rintro e w' ⟨rfl, rfl⟩
          go_wp2_with (at_builtin; refine wpList_append_own _ rfl _ _ 37 rfl (w.heap.size) 3 i0 (.int .i64 0) 1 8 Try.underlying37 hi hz0 hz1 hz2 rfl (by decide) _ _ _ rfl (HR.out.alloc _) ⟨wr.heap.size, 0, none⟩ 1 1 [.int .i64 ((x : Int))] rfl rfl (cell_one_new _ _ _) (fun x hx => by simp at hx; subst hx; rfl) (by unfold maxLen; omega) (by omega) (by simp; omega) ?_; intro v2 w2 hown2 hgrow2 _)
          have hown3 : w2.ownsRow w.heap.size 3 1 v2 (Pi ++ [(x : Int)]).length (cellsI (Pi ++ [(x : Int)])) := by
            rw [List.length_append, show cellsI (Pi ++ [(x : Int)]) = cellsI Pi ++ [.int .i64 (x : Int)] from by simp [cellsI]]
            exact hown2
          have HR2 := Lib.hid hown3
          have HB2 := Lib.hid ((HB.out.alloc hsz (.cells #[.int .i64 (x : Int)] 3)).grown hgrow2 (by simp; omega) (fun p_ e_ => (HR.out.lt p_ e_).1))
          have HG3 := Lib.hid (mids.grown_blk (w := wr) HR.out HG1.out (by decide) hgrow2)
          have HG4 := Lib.hid (mids.grown_blk (w := wr) HR.out HG2.out (by decide) hgrow2)
          clear hown2 hgrow2 hown3 hPI
          go_roundg g2
          case measure => omega
          case rel => exact ⟨x + 1, _, rfl, by omega, by go_num, by rw [HN.out]; exact HR2.out, HG3.out, HG4.out, HB2.out⟩
theorem code_nd8 {c : Nat} (hc : c < 256) : codeL (ndN c) = c := code_nwD (n := 8) (b := c) hc
set_option maxHeartbeats 16000000 in
set_option maxRecDepth 100000 in
theorem l8Best_any (n d : Nat) (v : Value) (l : List Ed) (hl : l.length ≤ 1048576) (hg : P2.Good (n : Int) l) (hn : n ≤ 8) (hd : d ≤ 3) : ∀ (k : Nat) (f : Fr) (Bv Dv : Value) (w : World), k ≤ 8 → onesN (opnN n f.1 f.2) ≤ k → FrOk n f → Edges w v l → Ints w Bv (nw (bitB f.1) n) → Ints w Dv (nw (bitB f.2) n) →
    Calls Try.prog 61 #[.agg #[.int .i64 (n : Int), v], .agg #[Bv, Dv], .int .i64 (d : Int)] w (RetB w (bplN l n d k f)) := by
  have stop : ∀ (k : Nat) (f : Fr) (Bv Dv : Value) (w : World), FrOk n f → Edges w v l → Ints w Bv (nw (bitB f.1) n) → Ints w Dv (nw (bitB f.2) n) → thrN l n f.1 f.2 = 0 →
      Calls Try.prog 61 #[.agg #[.int .i64 (n : Int), v], .agg #[Bv, Dv], .int .i64 (d : Int)] w (RetB w (bplN l n d k f)) := by
    intro k f Bv Dv w hf h hb hd2 ht
    rw [bplN_stop ht]
    obtain ⟨b, e_⟩ := f
    change Ints w Bv (nw (bitB b) n) at hb
    change Ints w Dv (nw (bitB e_) n) at hd2
    obtain ⟨A, c, rfl, -⟩ := h.form
    obtain ⟨A1, c1, rfl, -⟩ := hb.form
    obtain ⟨A3, c3, rfl, -⟩ := hd2.form
    have hb2 : b < 2 ^ n := hf.1
    obtain ⟨W0, hW0⟩ : ∃ W0, W0 = (w.alloc (.cells #[.int .i64 (n : Int), .slice A l.length c] 30)).alloc (.cells #[.slice A1 (nw (bitB b) n).length c1, .slice A3 (nw (bitB e_) n).length c3] 80) := ⟨_, rfl⟩
    have b0 : Below w.heap.size w W0 := by rw [hW0]; exact ((Below.refl _ _).alloc (Nat.le_refl _) _).alloc (by simp) _
    have g1 : Blk W0 w.heap.size 30 #[.int .i64 (n : Int), .slice A l.length c] := by rw [hW0]; exact (Blk.new w 30 #[.int .i64 (n : Int), .slice A l.length c]).alloc _
    have g2 : Blk W0 (w.heap.size + 1) 80 #[.slice A1 (nw (bitB b) n).length c1, .slice A3 (nw (bitB e_) n).length c3] := by
      have h_ := Blk.new (w.alloc (.cells #[.int .i64 (n : Int), .slice A l.length c] 30)) 80 #[.slice A1 (nw (bitB b) n).length c1, .slice A3 (nw (bitB e_) n).length c3]
      rw [World.size_alloc] at h_
      rw [hW0]; exact h_
    obtain ⟨p0, p1, -, -⟩ := g1.two
    obtain ⟨q0, q1, -, -⟩ := g2.two
    have HN := Lib.hid (l8Next_any n (b, e_) (.slice A l.length c) _ _ l W0 (h.below b0) hl hf hn (hb.below b0) (hd2.below b0))
    have hz : nw (bitB (thrN l n (b, e_).1 (b, e_).2)) n = [] := by
      rw [show thrN l n (b, e_).1 (b, e_).2 = 0 from ht]
      rw [List.eq_nil_iff_forall_not_mem]
      intro x hx
      obtain ⟨j, _, hp, _⟩ := mem_nw.1 hx
      unfold bitB at hp
      simp at hp
    rw [hz] at HN
    have hbl : (nw (bitB b) n).length = onesN b := by rw [nd_bits hn hb2]; rfl
    have hnl := nw_len (bitB b) n
    have HBL := Lib.hid hbl
    have hw1 : IntKind.i64.wrap ((n : Int) - ((nw (bitB b) n).length : Int)) = (n : Int) - ((nw (bitB b) n).length : Int) := IntWalk.i64_in _ (by omega)
    have HB0 := Lib.hid b0
    have HG1 := Lib.hid g1
    have HG2 := Lib.hid g2
    have HW0 := Lib.hid hW0
    rw [hW0] at p0 p1 q0 q1
    clear b0 g1 g2 hW0 h hb hd2 hf ht hz hbl hb2
    show Calls _ _ _ _ (RetB w ([], (n : Int) - (onesN b : Int)))
    rw [← HBL.out]
    generalize nw (bitB b) n = LB at *
    generalize nw (bitB e_) n = LD at *
    go_enter Try.func61, Try.ntmps61
    go_wp2_with fail
    rw [← HW0.out]
    refine HN.out.mono ?_
    rintro e w1 ⟨A2, c2, rfl, o2, b1⟩
    have HE1 := Lib.hid (btrans HB0.out b1)
    have HG3 := Lib.hid (HG1.out.below b1 HG1.out.lt)
    have HG4 := Lib.hid (HG2.out.below b1 HG2.out.lt)
    clear p0 p1 q0 q1 o2 b1
    obtain ⟨p0, p1, -, -⟩ := HG3.out.two
    obtain ⟨q0, q1, -, -⟩ := HG4.out.two
    obtain ⟨a0, a1, -, -⟩ := (HG3.out.alloc (.cells #[] 37)).two
    obtain ⟨a2, a3, -, -⟩ := (HG4.out.alloc (.cells #[] 37)).two
    go_wp2_with fail
    refine wp_region_held_drew (S := (fun w' : World => w'.cell? ⟨w.heap.size, 0, none⟩ = some (.int .i64 (n : Int)) ∧ w'.cell? ⟨w.heap.size + 1, 0, none⟩ = some (.slice A1 LB.length c1))) (by kernel_rfl) (by (try dsimp only); simp [*]) (fun hHeld => ?_)
    change wpAnyH _ _ _ _ _ _ #[false, false, false, false, false, false, false, false, false] _ _
    refine wpAnyH_take (i := 1) (oi := ⟨some 21, _, _, _, _, _⟩) (v := ?_) rfl (by kernel_rfl) (by kernel_rfl) (by kernel_rfl) (fun _ _ _ h => h) (Or.inl ⟨by rfl, ?_⟩) (by assumption) ?_
    rotate_left
    · (intro w hSw; (try dsimp only at hSw); go_simp; (try (with_reducible rfl)))
    try simp only [Act.put, List.setIfInBounds_toArray, List.set_cons_zero, List.set_cons_succ]
    refine wpAnyH_take (i := 2) (oi := ⟨some 22, _, _, _, _, _⟩) (v := ?_) rfl (by kernel_rfl) (by kernel_rfl) (by kernel_rfl) (fun _ _ _ h => h) (Or.inl ⟨by rfl, ?_⟩) (by assumption) ?_
    rotate_left
    · (intro w hSw; (try dsimp only at hSw); go_simp; (try (with_reducible rfl)))
    try simp only [Act.put, List.setIfInBounds_toArray, List.set_cons_zero, List.set_cons_succ]
    refine wpAnyH_take (i := 3) (oi := ⟨some 23, _, _, _, _, _⟩) (v := ?_) rfl (by kernel_rfl) (by kernel_rfl) (by kernel_rfl) (fun _ _ _ h => h) (Or.inl ⟨by rfl, ?_⟩) (by assumption) ?_
    rotate_left
    · (intro w hSw; (try dsimp only at hSw); go_simp; (try (with_reducible rfl)))
    try simp only [Act.put, List.setIfInBounds_toArray, List.set_cons_zero, List.set_cons_succ]
    refine wpAnyH_take (i := 4) (oi := ⟨some 24, _, _, _, _, _⟩) (v := ?_) rfl (by kernel_rfl) (by kernel_rfl) (by kernel_rfl) (fun _ _ _ h => h) (Or.inl ⟨by rfl, ?_⟩) (by assumption) ?_
    rotate_left
    · (intro w hSw; (try dsimp only at hSw); go_simp; (try (with_reducible rfl)))
    try simp only [Act.put, List.setIfInBounds_toArray, List.set_cons_zero, List.set_cons_succ]
    refine wpAnyH_take (i := 5) (oi := ⟨some 25, _, _, _, _, _⟩) (v := ?_) rfl (by kernel_rfl) (by kernel_rfl) (by kernel_rfl) (fun _ _ _ h => h) (Or.inl ⟨by rfl, ?_⟩) (by assumption) ?_
    rotate_left
    · (intro w hSw; (try dsimp only at hSw); go_simp; (try (with_reducible rfl)))
    try simp only [Act.put, List.setIfInBounds_toArray, List.set_cons_zero, List.set_cons_succ]
    refine wpAnyH_take (i := 6) (oi := ⟨some 26, _, _, _, _, _⟩) (v := ?_) rfl (by kernel_rfl) (by kernel_rfl) (by kernel_rfl) (fun _ _ _ h => h) (Or.inl ⟨by rfl, ?_⟩) (by assumption) ?_
    rotate_left
    · (intro w hSw; (try dsimp only at hSw); go_simp; (try (with_reducible rfl)))
    try simp only [Act.put, List.setIfInBounds_toArray, List.set_cons_zero, List.set_cons_succ]
    refine wpAnyH_ready (rs := [0]) (by kernel_rfl) (by simp) ?_
    refine AllReadyH.cons rfl (fun K hK => ?_) AllReadyH.nil
    go_simp
    refine hK.out _ _ (by first | exact ⟨a0, a2⟩ | simp [*]) (fun hHeld => ?_)
    clear hK K
    refine wpAnyH_take (i := 7) (oi := ⟨some 6, _, _, _, _, _⟩) (v := ?_) rfl (by kernel_rfl) (by kernel_rfl) (by kernel_rfl) (fun _ _ _ h => h) (Or.inl ⟨by rfl, ?_⟩) (by assumption) ?_
    rotate_left
    · (intro w hSw; (try dsimp only at hSw); go_simp; (try (with_reducible rfl)))
    try simp only [Act.put, List.setIfInBounds_toArray, List.set_cons_zero, List.set_cons_succ]
    refine wpAnyH_take (i := 8) (oi := ⟨some 7, _, _, _, _, _⟩) (v := ?_) rfl (by kernel_rfl) (by kernel_rfl) (by kernel_rfl) (fun _ _ _ h => h) (Or.inl ⟨by rfl, ?_⟩) (by assumption) ?_
    rotate_left
    · (intro w hSw; (try dsimp only at hSw); go_simp; (try (with_reducible rfl)))
    try simp only [Act.put, List.setIfInBounds_toArray, List.set_cons_zero, List.set_cons_succ]
    refine wpAnyH_done (by kernel_rfl) ?_ _
    go_wp2_with fail
    go_ret2
    exact ⟨_, 0, [], rfl, ⟨own_base (own_new0 w1.drew 37 1) HE1.out.size, fun i u r hu => by simp at hu, fun i j u u' k _ hu => by simp at hu⟩, (HE1.out.drew).alloc HE1.out.size _⟩
  intro k
  induction k with
  | zero => exact fun f Bv Dv w _ hk hf h hb hd2 => stop 0 f Bv Dv w hf h hb hd2 (open_none hn hk)
  | succ k ih =>
    intro f Bv Dv w hk8 hk hf h hb hd2
    by_cases ht : thrN l n f.1 f.2 = 0
    · exact stop (k + 1) f Bv Dv w hf h hb hd2 ht
    clear stop
    have HV : Hid (bplN l n d (k + 1) f = bplT l n d k f (csN n d f)) := bplN_go ht
    obtain ⟨A, c, rfl, -⟩ := h.form
    obtain ⟨A1, c1, rfl, -⟩ := hb.form
    obtain ⟨A3, c3, rfl, -⟩ := hd2.form
    obtain ⟨W0, hW0⟩ : ∃ W0, W0 = (w.alloc (.cells #[.int .i64 (n : Int), .slice A l.length c] 30)).alloc (.cells #[.slice A1 (nw (bitB f.1) n).length c1, .slice A3 (nw (bitB f.2) n).length c3] 80) := ⟨_, rfl⟩
    have b0 : Below w.heap.size w W0 := by rw [hW0]; exact ((Below.refl _ _).alloc (Nat.le_refl _) _).alloc (by simp) _
    have g1 : Blk W0 w.heap.size 30 #[.int .i64 (n : Int), .slice A l.length c] := by rw [hW0]; exact (Blk.new w 30 #[.int .i64 (n : Int), .slice A l.length c]).alloc _
    have g2 : Blk W0 (w.heap.size + 1) 80 #[.slice A1 (nw (bitB f.1) n).length c1, .slice A3 (nw (bitB f.2) n).length c3] := by
      have h_ := Blk.new (w.alloc (.cells #[.int .i64 (n : Int), .slice A l.length c] 30)) 80 #[.slice A1 (nw (bitB f.1) n).length c1, .slice A3 (nw (bitB f.2) n).length c3]
      rw [World.size_alloc] at h_
      rw [hW0]; exact h_
    obtain ⟨p0, p1, -, -⟩ := g1.two
    obtain ⟨q0, q1, -, -⟩ := g2.two
    have HN := Lib.hid (l8Next_any n f (.slice A l.length c) _ _ l W0 (h.below b0) hl hf hn (hb.below b0) (hd2.below b0))
    have hne : (nw (bitB (thrN l n f.1 f.2)) n).length ≠ 0 := fun e => ht (by
      have e2 := List.length_eq_zero_iff.1 e
      unfold thrN
      rw [numOf_zero]
      intro y hy
      cases hp : (arB l n f.1 y && !bitB f.1 y && !bitB f.2 y) with
      | false => rfl
      | true =>
        have : ((y : Nat) : Int) ∈ nw (bitB (thrN l n f.1 f.2)) n := mem_nw.2 ⟨y, hy, by unfold thrN bitB; rw [numOf_bit, decide_eq_true hy]; exact hp, rfl⟩
        rw [e2] at this; simp at this)
    have hq1 : (((nw (bitB (thrN l n f.1 f.2)) n).length : Int) == 0) = false := by rw [beq_eq_false_iff_ne]; omega
    have hq2 : ((nw (bitB (thrN l n f.1 f.2)) n).length == 0) = false := by rw [beq_eq_false_iff_ne]; exact hne
    have HF := Lib.hid (fun (W : World) (hW : Below w.heap.size w W) => l8Free_any n f (.slice A l.length c) _ _ W hf hn (hb.below hW) (hd2.below hW))
    have hon8 : onesN (opnN n f.1 f.2) ≤ 8 := nw_len _ _
    have hfl := open_len (f := f) hn
    have hmi : min (d : Int) ((nw (opB f) n).length : Int) = ((min d (onesN (opnN n f.1 f.2)) : Nat) : Int) := by rw [hfl]; omega
    have HLE := Lib.hid (fun (W : World) => (by have h_ := l1Least_any (d : Int) ((nw (opB f) n).length : Int) W; rw [hmi] at h_; exact h_ : Calls Try.prog 94 #[.int .i64 (d : Int), .int .i64 ((nw (opB f) n).length : Int)] W fun e w' => e = .returned (.int .i64 ((min d (onesN (opnN n f.1 f.2)) : Nat) : Int)) ∧ W = w'))
    have HCH := Lib.hid (fun (u : Value) (W : World) (hu : Ints W u (nw (opB f) n)) => (by have h_ := l8Choices_any (min d (onesN (opnN n f.1 f.2))) (by omega) u (nw (opB f) n) W hu (by rw [hfl]; exact hon8); rw [chL_open hn] at h_; exact h_ : Calls Try.prog 70 #[u, .int .i64 ((min d (onesN (opnN n f.1 f.2)) : Nat) : Int)] W (RetX W (rowN (csN n d f)))))
    have HPW := pow_le hn
    have HCM : Hid (∀ x ∈ csN n d f, x < 2 ^ n ∧ x < 256) := fun x hx => ⟨(csN_mem hn hx).1, by have := (csN_mem hn hx).1; omega⟩
    have hcl : (csN n d f).length ≤ 256 := Nat.le_trans (List.length_filter_le _ _) (setsK_len hn (by omega))
    have HRO := Lib.hid (fun (x : Nat) (hx : x ∈ csN n d f) (u : Value) (W : World) (hW : Below w.heap.size w W) (hu : Ints W u (ndN x)) => (by
      have h_ := l8Round_any n f (.slice A l.length c) _ _ u l (ndN x) W (h.below hW) hl hf hn (hb.below hW) (hd2.below hW) hu (by have := nw_len (bitB x) 8; unfold ndN; omega) (fun y hy => by
        rw [← nd_bits hn (HCM.out x hx).1] at hy
        obtain ⟨j, hj, _, rfl⟩ := mem_nw.1 hy
        omega)
      rw [code_nd8 (HCM.out x hx).2] at h_
      exact h_ : Calls Try.prog 95 #[.agg #[.int .i64 (n : Int), .slice A l.length c], .agg #[.slice A1 (nw (bitB f.1) n).length c1, .slice A3 (nw (bitB f.2) n).length c3], u] W fun e w' => ∃ A1 c1 A3 c3, e = .returned (.agg #[.slice A1 (nw (bitB (aftF l n f x).1) n).length c1, .slice A3 (nw (bitB (aftF l n f x).2) n).length c3]) ∧ RowI2 w' W.heap.size (.slice A1 (nw (bitB (aftF l n f x).1) n).length c1) (nw (bitB (aftF l n f x).1) n) ∧ RowI2 w' W.heap.size (.slice A3 (nw (bitB (aftF l n f x).2) n).length c3) (nw (bitB (aftF l n f x).2) n) ∧ Below W.heap.size W w'))
    have HIH := Lib.hid (fun (x : Nat) (hx : x ∈ csN n d f) (Bv Dv : Value) (W : World) (hW : Below w.heap.size w W) (h1 : Ints W Bv (nw (bitB (aftF l n f x).1) n)) (h2 : Ints W Dv (nw (bitB (aftF l n f x).2) n)) => ih (aftF l n f x) Bv Dv W (by omega) (by have := open_less (c := x) hn ht; omega) (aft_ok hf (HCM.out x hx).1) (h.below hW) h1 h2)
    have HPN := Lib.hid (fun (x : Nat) (hx : x ∈ csN n d f) => bplN_len (l := l) (d := d) hn k (aftF l n f x) (aft_ok hf (HCM.out x hx).1))
    have HTL := Lib.hid (fun (L : List Nat) (hL : ∀ c ∈ L, c < 2 ^ n) => bplT_len (l := l) (d := d) (k := k) hn hf hL)
    have HBS := Lib.hid (fun (L : List Nat) (c : Nat) => bplT_snoc l n d k f L c)
    have HRT := Lib.hid (rowN_len (csN n d f))
    have HT0 : Hid (bplT l n d k f [] = ([], -1)) := rfl
    have HB0 := Lib.hid b0
    have HG1 := Lib.hid g1
    have HG2 := Lib.hid g2
    have HW0 := Lib.hid hW0
    have HFN := Lib.hid (show (nw (opB f) n).length ≤ 8 from by rw [hfl]; exact hon8)
    rw [hW0] at p0 p1 q0 q1
    clear b0 g1 g2 hW0 h hb hd2 hf ht ih hk hne hmi hfl
    generalize nw (bitB (thrN l n f.1 f.2)) n = NT at *
    generalize nw (opB f) n = FR at *
    generalize csN n d f = CS at *
    generalize nw (bitB f.1) n = LB at *
    generalize nw (bitB f.2) n = LD at *
    go_enter Try.func61, Try.ntmps61
    go_wp2_with fail
    rw [← HW0.out]
    refine HN.out.mono ?_
    rintro e w1 ⟨A2, c2, rfl, o2, b1⟩
    have HE1 := Lib.hid (btrans HB0.out b1)
    have HG3 := Lib.hid (HG1.out.below b1 HG1.out.lt)
    have HG4 := Lib.hid (HG2.out.below b1 HG2.out.lt)
    clear p0 p1 q0 q1 o2 b1
    obtain ⟨p0, p1, -, -⟩ := HG3.out.two
    obtain ⟨q0, q1, -, -⟩ := HG4.out.two
    go_wp2_with fail
    refine (HF.out w1 HE1.out).mono ?_
    rintro e w2 ⟨A5, c5, rfl, o5, b2⟩
    obtain ⟨W2, hW2⟩ : ∃ W2, W2 = w2.alloc (.cells #[] 37) := ⟨_, rfl⟩
    have d2 : Below w2.heap.size w2 W2 := by rw [hW2]; exact (Below.refl _ _).alloc (Nat.le_refl _) _
    have HE2 := Lib.hid (btrans (btrans HE1.out b2) d2)
    have HG5 := Lib.hid (HG3.out.below (btrans b2 d2) HG3.out.lt)
    have HG6 := Lib.hid (HG4.out.below (btrans b2 d2) HG4.out.lt)
    have hz2 := (btrans HE1.out b2).size
    have HO2 : Hid (W2.ownsRow w.heap.size 37 1 (.slice (some ⟨w2.heap.size, 0, none⟩) 0 0) 0 []) := by show World.ownsRow _ _ _ _ _ _ _; rw [hW2]; exact own_base (own_new0 w2 37 1) hz2
    have HF2 : Hid (Ints W2 (.slice A5 FR.length c5) FR) := (show Ints w2 _ _ from Reads.of_own o5).below d2
    have HW2 := Lib.hid hW2
    have HL2 := Lib.hid (HLE.out W2)
    have HC2 := Lib.hid (HCH.out _ W2 HF2.out)
    clear p0 p1 q0 q1 o5 b2 hW2 d2
    go_wp2_with fail
    rw [← HW2.out]
    refine HL2.out.mono ?_
    rintro e w' ⟨rfl, rfl⟩
    go_wp2_with fail
    refine HC2.out.mono ?_
    rintro e w3 ⟨A6, c6, us6, rfl, o6, b3⟩
    have HE3 := Lib.hid (btrans HE2.out b3)
    have HG7 := Lib.hid (HG5.out.below b3 HG5.out.lt)
    have HG8 := Lib.hid (HG6.out.below b3 HG6.out.lt)
    have HS3 := Lib.hid o6
    have hzW := HE2.out.size
    have HO3 : Hid (OwnG w3 w.heap.size (.slice (some ⟨w2.heap.size, 0, none⟩) 0 0) [] (rowN (bplT l n d k f (CS.take 0)).1)) := ⟨own_below HO2.out b3, fun i u r hu => by simp at hu, fun i j u u' k _ hu => by simp at hu⟩
    have hz3 := HE3.out.size
    clear o6 b3 HO2 HF2 HL2 HC2 HG1 HG2 HG3 HG4 HG5 HG6
    go_wp2_with fail
    go_loopg [9, 10, 12] CS.length (fun g bv mv iv wr => ∃ (i : Nat) (bw : Value) (us : List Value), bw = bv ∧ i + g = CS.length ∧ iv = .int .i64 (i : Int) ∧ mv = .int .i64 (bplT l n d k f (CS.take i)).2 ∧ OwnG wr w.heap.size bw us (rowN (bplT l n d k f (CS.take i)).1) ∧ Below w3.heap.size w3 wr)
    case atStart => exact ⟨0, _, [], rfl, by omega, rfl, rfl, HO3.out, Below.refl _ _⟩
    case round =>
      clear HO3
      obtain ⟨i, bw, us, rfl, hig, rfl, rfl, hown, hB⟩ := hrel
      have HB := Lib.hid hB
      have HBE := Lib.hid (btrans HE3.out hB)
      have HOW := Lib.hid hown
      obtain ⟨A7, c7, rfl⟩ := own_form hown.1
      cases gk with
      | zero =>
        obtain rfl : i = CS.length := by omega
        have hnl : ¬ ((CS.length : Int) < ((rowN CS).length : Int)) := by rw [HRT.out]; omega
        rw [List.take_length] at hown ⊢
        have HO9 := Lib.hid hown
        clear hown hB HOW
        go_wp2_with fail
        go_ret2
        rw [HV.out]
        exact ⟨A7, c7, us, rfl, HO9.out, HBE.out⟩
      | succ g2 =>
        have hlt : i < CS.length := by omega
        have hlt' : (i : Int) < ((rowN CS).length : Int) := by rw [HRT.out]; omega
        obtain ⟨x, hx⟩ : ∃ x, CS[i]? = some x := ⟨_, List.getElem?_eq_getElem hlt⟩
        have hxm := List.mem_of_getElem? hx
        have HSW := HS3.out.below hB
        obtain ⟨u, g5, o5, hu5, hA5, cs, hru⟩ := (gridl.readsG_of_own HSW).row (rowN_at hx)
        subst hA5
        obtain ⟨Ar, cr, rfl, -⟩ := hru.form
        have hur := HSW.2.1 i _ _ hu5 (rowN_at hx)
        have HUB : Hid (∀ kk, (Value.slice Ar (ndN x).length cr).ownBlock = some kk → kk < w3.heap.size) := fun kk hkk => (gridl.OwnGR.new HS3.out).2.2 i _ kk hu5 hkk
        have HUR := Lib.hid hur
        have HTK : Hid (CS.take (i + 1) = CS.take i ++ [x]) := by show _ = _; rw [List.take_add_one, hx]; rfl
        have HG9 := Lib.hid (HG7.out.below hB HG7.out.lt)
        have HG10 := Lib.hid (HG8.out.below hB HG8.out.lt)
        obtain ⟨p0, p1, -, -⟩ := HG9.out.two
        obtain ⟨q0, q1, -, -⟩ := HG10.out.two
        have HPNx := Lib.hid (HPN.out x hxm)
        have HROx := Lib.hid (HRO.out x hxm _ wr.drew HBE.out.drew (hru.below (Below.refl _ _).drew))
        have HIHx := Lib.hid (HIH.out x hxm)
        have HTLi := Lib.hid (HTL.out (CS.take i) (fun c hc => (HCM.out c (List.mem_of_mem_take hc)).1))
        have HSN := Lib.hid (HBS.out (CS.take i) x)
        clear hx hxm hown hB hu5 hru hur HSW
        obtain ⟨FB, hFB⟩ : ∃ FB, FB = bplT l n d k f (CS.take i) := ⟨_, rfl⟩
        obtain ⟨r, hr⟩ : ∃ r, r = bplN l n d k (aftF l n f x) := ⟨_, rfl⟩
        rw [← hFB] at HSN HTLi HOW ⊢
        rw [← hr] at HSN HPNx HIHx
        generalize aftF l n f x = f2 at *
        clear hFB hr
        have hrn := HPNx.out.1
        have hr1 := HPNx.out.2.1
        have hr2 := HPNx.out.2.2.1
        have hb1 := HTLi.out.2.1
        have hb2' := HTLi.out.2.2
        have HRL := Lib.hid (rowN_len r.1)
        go_wp2_with fail
        refine wp_region_held_drew (S := (fun w' : World => w'.cell? ⟨w.heap.size, 0, none⟩ = some (.int .i64 (n : Int)) ∧ w'.cell? ⟨w.heap.size, 1, none⟩ = some (.slice A l.length c) ∧ w'.cell? ⟨w.heap.size + 1, 0, none⟩ = some (.slice A1 LB.length c1) ∧ w'.cell? ⟨w.heap.size + 1, 1, none⟩ = some (.slice A3 LD.length c3) ∧ w'.cell? ⟨g5, o5 + i, none⟩ = some (.slice Ar (ndN x).length cr))) (by kernel_rfl) (by (try dsimp only); simp [*]) (fun hHeld => ?_)
        change wpAnyH _ _ _ _ _ _ #[false, false, false, false, false, false, false, false, false, false, false, false, false, false, false] _ _
        refine wpAnyH_take (i := 0) (oi := ⟨some 44, _, _, _, _, _⟩) (v := ?_) rfl (by kernel_rfl) (by kernel_rfl) (by kernel_rfl) (fun _ _ _ h => h) (Or.inl ⟨by rfl, ?_⟩) (by assumption) ?_
        rotate_left
        · (intro w hSw; (try dsimp only at hSw); go_simp; (try (with_reducible rfl)))
        try simp only [Act.put, List.setIfInBounds_toArray, List.set_cons_zero, List.set_cons_succ]
        refine wpAnyH_take (i := 1) (oi := ⟨some 45, _, _, _, _, _⟩) (v := ?_) rfl (by kernel_rfl) (by kernel_rfl) (by kernel_rfl) (fun _ _ _ h => h) (Or.inl ⟨by rfl, ?_⟩) (by assumption) ?_
        rotate_left
        · (intro w hSw; (try dsimp only at hSw); go_simp; (try (with_reducible rfl)))
        try simp only [Act.put, List.setIfInBounds_toArray, List.set_cons_zero, List.set_cons_succ]
        refine wpAnyH_take (i := 2) (oi := ⟨some 46, _, _, _, _, _⟩) (v := ?_) rfl (by kernel_rfl) (by kernel_rfl) (by kernel_rfl) (fun _ _ _ h => h) (Or.inl ⟨by rfl, ?_⟩) (by assumption) ?_
        rotate_left
        · (intro w hSw; (try dsimp only at hSw); go_simp; (try (with_reducible rfl)))
        try simp only [Act.put, List.setIfInBounds_toArray, List.set_cons_zero, List.set_cons_succ]
        refine wpAnyH_take (i := 3) (oi := ⟨some 47, _, _, _, _, _⟩) (v := ?_) rfl (by kernel_rfl) (by kernel_rfl) (by kernel_rfl) (fun _ _ _ h => h) (Or.inl ⟨by rfl, ?_⟩) (by assumption) ?_
        rotate_left
        · (intro w hSw; (try dsimp only at hSw); go_simp; (try (with_reducible rfl)))
        try simp only [Act.put, List.setIfInBounds_toArray, List.set_cons_zero, List.set_cons_succ]
        refine wpAnyH_take (i := 4) (oi := ⟨some 48, _, _, _, _, _⟩) (v := ?_) rfl (by kernel_rfl) (by kernel_rfl) (by kernel_rfl) (fun _ _ _ h => h) (Or.inl ⟨by rfl, ?_⟩) (by assumption) ?_
        rotate_left
        · (intro w hSw; (try dsimp only at hSw); go_simp; (try (with_reducible rfl)))
        try simp only [Act.put, List.setIfInBounds_toArray, List.set_cons_zero, List.set_cons_succ]
        refine wpAnyH_take (i := 5) (oi := ⟨some 49, _, _, _, _, _⟩) (v := ?_) rfl (by kernel_rfl) (by kernel_rfl) (by kernel_rfl) (fun _ _ _ h => h) (Or.inl ⟨by rfl, ?_⟩) (by assumption) ?_
        rotate_left
        · (intro w hSw; (try dsimp only at hSw); go_simp; (try (with_reducible rfl)))
        try simp only [Act.put, List.setIfInBounds_toArray, List.set_cons_zero, List.set_cons_succ]
        refine wpAnyH_take (i := 6) (oi := ⟨some 50, _, _, _, _, _⟩) (v := ?_) rfl (by kernel_rfl) (by kernel_rfl) (by kernel_rfl) (fun _ _ _ h => h) (Or.inl ⟨by rfl, ?_⟩) (by assumption) ?_
        rotate_left
        · (intro w hSw; (try dsimp only at hSw); go_simp; (try (with_reducible rfl)))
        try simp only [Act.put, List.setIfInBounds_toArray, List.set_cons_zero, List.set_cons_succ]
        refine wpAnyH_take (i := 8) (oi := ⟨some 52, _, _, _, _, _⟩) (v := ?_) rfl (by kernel_rfl) (by kernel_rfl) (by kernel_rfl) (fun _ _ _ h => h) (Or.inl ⟨by rfl, ?_⟩) (by assumption) ?_
        rotate_left
        · (intro w hSw; (try dsimp only at hSw); go_simp; (try (with_reducible rfl)))
        try simp only [Act.put, List.setIfInBounds_toArray, List.set_cons_zero, List.set_cons_succ]
        refine wpAnyH_ready (rs := [7]) (by kernel_rfl) (by simp) ?_
        refine AllReadyH.cons (o := ⟨some 51, _, _, _, _, _⟩) rfl (fun K hK => ?_) AllReadyH.nil
        go_simp
        (with_reducible refine HROx.out.mono ?_); rintro e w6 ⟨B1, e1, B3, e3, rfl, r1, r3, b6⟩; have d6 : Below wr.heap.size wr w6 := btrans (Below.refl _ _).drew b6; obtain ⟨k0, k1, -, -⟩ := (HG9.out.below d6 HG9.out.lt).two; obtain ⟨k2, k3, -, -⟩ := (HG10.out.below d6 HG10.out.lt).two; have k4 := nearv.cell_keep cs d6; have HE6 := Lib.hid (btrans HBE.out d6)
        go_wp2_with fail
        refine hK.out _ _ (by (try dsimp only); simp [*]) (fun hHeld => ?_)
        clear hK K
        try simp only [List.setIfInBounds_toArray, List.set_cons_zero, List.set_cons_succ]
        refine wpAnyH_ready (rs := [9]) (by kernel_rfl) (by simp) ?_
        refine AllReadyH.cons (o := ⟨some 53, _, _, _, _, _⟩) rfl (fun K hK => ?_) AllReadyH.nil
        go_simp
        (with_reducible refine (HIHx.out _ _ w6 HE6.out (Reads.of_own r1) (Reads.of_own r3)).mono ?_); rintro e w7 ⟨A8, c8, us8, rfl, o8, b8⟩; have d8 : Below wr.heap.size wr w7 := btrans d6 b8; obtain ⟨j0, j1, -, -⟩ := (HG9.out.below d8 HG9.out.lt).two; obtain ⟨j2, j3, -, -⟩ := (HG10.out.below d8 HG10.out.lt).two; have j4 := nearv.cell_keep cs d8
        go_wp2_with fail
        refine hK.out _ _ (by (try dsimp only); simp [*]) (fun hHeld => ?_)
        clear hK K
        try simp only [List.setIfInBounds_toArray, List.set_cons_zero, List.set_cons_succ]
        refine wpAnyH_take (i := 10) (oi := ⟨some 43, _, _, _, _, _⟩) (v := ?_) rfl (by kernel_rfl) (by kernel_rfl) (by kernel_rfl) (fun _ _ _ h => h) (Or.inl ⟨by rfl, ?_⟩) (by assumption) ?_
        rotate_left
        · (intro w hSw; (try dsimp only at hSw); go_simp; (try (with_reducible rfl)))
        try simp only [Act.put, List.setIfInBounds_toArray, List.set_cons_zero, List.set_cons_succ]
        refine wpAnyH_take (i := 11) (oi := ⟨some 54, _, _, _, _, _⟩) (v := ?_) rfl (by kernel_rfl) (by kernel_rfl) (by kernel_rfl) (fun _ _ _ h => h) (Or.inl ⟨by rfl, ?_⟩) (by assumption) ?_
        rotate_left
        · (intro w hSw; (try dsimp only at hSw); go_simp; (try (with_reducible rfl)))
        try simp only [Act.put, List.setIfInBounds_toArray, List.set_cons_zero, List.set_cons_succ]
        refine wpAnyH_take (i := 12) (oi := ⟨some 55, _, _, _, _, _⟩) (v := ?_) rfl (by kernel_rfl) (by kernel_rfl) (by kernel_rfl) (fun _ _ _ h => h) (Or.inl ⟨by rfl, ?_⟩) (by assumption) ?_
        rotate_left
        · (intro w hSw; (try dsimp only at hSw); go_simp; (try (with_reducible rfl)))
        try simp only [Act.put, List.setIfInBounds_toArray, List.set_cons_zero, List.set_cons_succ]
        refine wpAnyH_take (i := 13) (oi := ⟨some 13, _, _, _, _, _⟩) (v := ?_) rfl (by kernel_rfl) (by kernel_rfl) (by kernel_rfl) (fun _ _ _ h => h) (Or.inl ⟨by rfl, ?_⟩) (by assumption) ?_
        rotate_left
        · (intro w hSw; (try dsimp only at hSw); go_simp; (try (with_reducible rfl)))
        try simp only [Act.put, List.setIfInBounds_toArray, List.set_cons_zero, List.set_cons_succ]
        refine wpAnyH_take (i := 14) (oi := ⟨some 14, _, _, _, _, _⟩) (v := ?_) rfl (by kernel_rfl) (by kernel_rfl) (by kernel_rfl) (fun _ _ _ h => h) (Or.inl ⟨by rfl, ?_⟩) (by assumption) ?_
        rotate_left
        · (intro w hSw; (try dsimp only at hSw); go_simp; (try (with_reducible rfl)))
        try simp only [Act.put, List.setIfInBounds_toArray, List.set_cons_zero, List.set_cons_succ]
        refine wpAnyH_done (by kernel_rfl) ?_ _
        have HB5 := Lib.hid (btrans HB.out d8)
        have HE5 := Lib.hid (btrans HBE.out d8)
        have HO5 := Lib.hid (HOW.out.below d8)
        have HP5 := Lib.hid o8
        have HU5 := Lib.hid (own_below HUR.out d8)
        have hz6 := HE6.out.size
        have hz7 := HE5.out.size
        have hzw := HB.out.size
        have hzd := d6.size
        clear k0 k1 k2 k3 k4 j0 j1 j2 j3 p0 p1 q0 q1 cs r1 r3 b6 b8 o8 d6 d8 hHeld
        by_cases hlt2 : FB.2 < r.2
        · have HNX : Hid (bplT l n d k f (CS.take (i + 1)) = (x :: r.1, r.2)) := by show _ = _; rw [HTK.out, HSN.out, if_pos hlt2]
          have hd1 : decide (FB.2 < r.2) = true := decide_eq_true hlt2
          have HRC : Hid (rowN (x :: r.1) = ndN x :: rowN r.1) := rfl
          have hap : ∀ y ∈ us8, ∀ k, y.ownBlock = some k → (Value.slice Ar (ndN x).length cr).ownBlock ≠ some k := fun y hy k hk e => by
            obtain ⟨j, hj⟩ := List.getElem?_of_mem hy
            obtain ⟨q, hq⟩ : ∃ q, (rowN r.1)[j]? = some q := ⟨_, List.getElem?_eq_getElem (by have := (List.getElem?_eq_some_iff.1 hj).1; have := HP5.out.len; omega)⟩
            have h1 := ((HP5.out.2.1 j y q hj hq).lt k hk).1
            have h2 := HUB.out k e
            omega
          have hG5 := HP5.out
          have hu6 := own_base (B' := w.heap.size) HU5.out hzW
          have hrl : (rowN r.1).length ≤ 1048576 := by rw [HRL.out]; omega
          clear hlt2 HSN
          go_wp2_with (at_builtin; refine wpList_append_cat rfl rfl _ _ rfl rfl rfl hG5 hz6 hz7 hrl hu6 rfl hap ?_; intro v9 w9 hG9 hB9)
          have HG11 := Lib.hid hG9
          have HB9 := Lib.hid (btrans HB5.out hB9)
          clear hG9 hB9 hG5 hu6 hap j4
          go_roundg g2
          case measure => omega
          case rel => exact ⟨i + 1, v9, _, rfl, by omega, by go_num, by rw [HNX.out], by rw [HNX.out, HRC.out]; exact HG11.out, HB9.out⟩
        · have HNX : Hid (bplT l n d k f (CS.take (i + 1)) = FB) := by show _ = _; rw [HTK.out, HSN.out, if_neg hlt2]
          have hd1 : decide (FB.2 < r.2) = false := decide_eq_false hlt2
          clear hlt2 HSN j4
          go_wp2_with fail
          go_roundg g2
          case measure => omega
          case rel => exact ⟨i + 1, _, us, rfl, by omega, by go_num, by rw [HNX.out], by rw [HNX.out]; exact HO5.out, HB5.out⟩
end Go.Proofs.Ytdhbaegkogklgaa.fires

/- Best fire plans: the contracts of both MostSaved, BestFirePlan and SavedSum. -/
namespace Go.Proofs.Ytdhbaegkogklgaa.fires
open Go.RowKit P2 words edges ints owns good adjs fns sets rets covs balls bitsI bags ups grid gridr gridl minmax
set_option linter.unusedVariables false

/-- the best plan against a fire at a node -/
def bstN (l : List Ed) (n d x : Nat) : List Nat × Int := bplN l n d 8 (2 ^ x, 0)
def mosV (s : Int) (l : List Ed) (start d : Int) : Int := (bstN l s.toNat d.toNat start.toNat).2
def bfpN (s : Int) (l : List Ed) (start d : Int) : List Nat := (bstN l s.toNat d.toNat start.toNat).1
theorem nw_z0 (n : Nat) : nw (bitB 0) n = [] := by
  rw [List.eq_nil_iff_forall_not_mem]
  intro x hx
  obtain ⟨j, _, hp, _⟩ := mem_nw.1 hx
  unfold bitB at hp
  simp at hp
theorem one_ok {n x : Nat} (hx : x < n) : FrOk n (2 ^ x, 0) := ⟨Nat.pow_lt_pow_right (by decide) hx, Nat.pow_pos (by decide)⟩
theorem fire_ok {s start d : Int} {l : List Ed} (h : FireP s l start d) : ∃ n x m : Nat, s = (n : Int) ∧ start = (x : Int) ∧ d = (m : Int) ∧ n ≤ 8 ∧ x < n ∧ m ≤ 3 ∧ P2.Good (n : Int) l := by
  obtain ⟨h1, h2, h3⟩ := h
  obtain ⟨hg, hr⟩ := nodesB_iff.1 h1
  have h4 := hr start (by simp)
  have h0 := hg.1
  have h8 := hg.2.1
  refine ⟨s.toNat, start.toNat, d.toNat, by omega, by omega, by omega, by omega, by omega, by omega, ?_⟩
  rw [Int.toNat_of_nonneg h0]; exact hg
set_option maxHeartbeats 4000000 in
set_option maxRecDepth 100000 in
theorem implMos_any (s start d : Int) (v : Value) (l : List Ed) (w : World) (h : Edges w v l) (hl : l.length ≤ 1048576) :
    Calls Try.prog 25 #[.agg #[.int .i64 s, v], .int .i64 start, .int .i64 d] w (RetN w (FireP s l start d) (mosV s l start d)) := by
  obtain ⟨A, c, rfl, -⟩ := h.form
  have H := Lib.hid h
  have b0 : Below w.heap.size w (w.alloc (.cells #[.int .i64 s, .slice A l.length c] 30)) := (Below.refl _ _).alloc (Nat.le_refl _) _
  have HG0 := Lib.hid (Blk.new w 30 #[.int .i64 s, .slice A l.length c])
  obtain ⟨p0, p1, -, -⟩ := HG0.out.two
  have HI := Lib.hid (isFire_any s start d (.slice A l.length c) l _ (h.below b0) hl)
  have HB0 := Lib.hid b0
  clear h b0
  by_cases hok : FireP s l start d
  · rw [okG_yes hok] at HI
    have HOK := Lib.hid hok
    obtain ⟨n, x, m, rfl, rfl, rfl, hn, hx, hm, hg⟩ := fire_ok hok
    have hxn : (x : Int) < (n : Int) := by omega
    have HCB := Lib.hid (fun (W : World) (hW : Below w.heap.size w W) => closedBits_any n (.slice A l.length c) l W (H.out.below hW) hl hg hn)
    have HBP := Lib.hid (fun (vc : Value) (W : World) (hc : Nums W vc (clos l n)) => (show Calls Try.prog 63 #[.agg #[.int .u64 ((2 ^ x : Nat) : Int), .int .u64 0], vc, .int .i64 (m : Int)] W (RetB W (bplN l n m 8 (2 ^ x, 0))) from bestPlan_any n m vc l hg hn hm 8 (2 ^ x, 0) W (Nat.le_refl _) (nw_len _ _) (one_ok hx) hc))
    have HV : Hid (bstN l ((n : Nat) : Int).toNat ((m : Nat) : Int).toNat ((x : Nat) : Int).toNat = bplN l n m 8 (2 ^ x, 0)) := by show _ = _; unfold bstN; rw [Int.toNat_natCast, Int.toNat_natCast, Int.toNat_natCast]
    have hsh : IntKind.u64.wrap ((2 : Int) ^ x) = ((2 ^ x : Nat) : Int) := wrap_pow (by omega)
    clear hok hg
    generalize bplN l n m 8 (2 ^ x, 0) = R at *
    generalize 2 ^ x = z at *
    go_enter Try.func25, Try.ntmps25
    go_wp2_with fail
    refine HI.out.mono ?_
    rintro e w1 ⟨rfl, b1⟩
    have HE1 := Lib.hid (btrans HB0.out b1)
    have HG1 := Lib.hid (HG0.out.below b1 HG0.out.lt)
    clear p0 p1 b1
    obtain ⟨p0, p1, -, -⟩ := HG1.out.two
    go_wp2_with fail
    refine wp_region_held_drew (S := (fun w' : World => w'.cell? ⟨w.heap.size, 0, none⟩ = some (.int .i64 (n : Int)) ∧ w'.cell? ⟨w.heap.size, 1, none⟩ = some (.slice A l.length c))) (by kernel_rfl) (by (try dsimp only); simp [*]) (fun hHeld => ?_)
    change wpAnyH _ _ _ _ _ _ #[false, false, false, false, false, false, false, false, false, false, false, false] _ _
    refine wpAnyH_take (i := 0) (oi := ⟨some 16, _, _, _, _, _⟩) (v := ?_) rfl (by kernel_rfl) (by kernel_rfl) (by kernel_rfl) (fun _ _ _ h => h) (Or.inl ⟨by rfl, ?_⟩) (by assumption) ?_
    rotate_left
    · (intro w hSw; (try dsimp only at hSw); go_simp; (try (with_reducible rfl)))
    try simp only [Act.put, List.setIfInBounds_toArray, List.set_cons_zero, List.set_cons_succ]
    refine wpAnyH_take (i := 1) (oi := ⟨some 17, _, _, _, _, _⟩) (v := ?_) rfl (by kernel_rfl) (by kernel_rfl) (by kernel_rfl) (fun _ _ _ h => h) (Or.inl ⟨by rfl, ?_⟩) (by assumption) ?_
    rotate_left
    · (intro w hSw; (try dsimp only at hSw); go_simp; (try (with_reducible rfl)))
    try simp only [Act.put, List.setIfInBounds_toArray, List.set_cons_zero, List.set_cons_succ]
    refine wpAnyH_take (i := 2) (oi := ⟨some 18, _, _, _, _, _⟩) (v := ?_) rfl (by kernel_rfl) (by kernel_rfl) (by kernel_rfl) (fun _ _ _ h => h) (Or.inl ⟨by rfl, ?_⟩) (by assumption) ?_
    rotate_left
    · (intro w hSw; (try dsimp only at hSw); go_simp; (try (with_reducible rfl)))
    try simp only [Act.put, List.setIfInBounds_toArray, List.set_cons_zero, List.set_cons_succ]
    refine wpAnyH_take (i := 3) (oi := ⟨some 19, _, _, _, _, _⟩) (v := ?_) rfl (by kernel_rfl) (by kernel_rfl) (by kernel_rfl) (fun _ _ _ h => h) (Or.inl ⟨by rfl, ?_⟩) (by assumption) ?_
    rotate_left
    · (intro w hSw; (try dsimp only at hSw); go_simp; (try (with_reducible rfl)))
    try simp only [Act.put, List.setIfInBounds_toArray, List.set_cons_zero, List.set_cons_succ]
    refine wpAnyH_take (i := 5) (oi := ⟨some 21, _, _, _, _, _⟩) (v := ?_) rfl (by kernel_rfl) (by kernel_rfl) (by kernel_rfl) (fun _ _ _ h => h) (Or.inl ⟨by rfl, ?_⟩) (by assumption) ?_
    rotate_left
    · (intro w hSw; (try dsimp only at hSw); go_simp; (try (with_reducible rfl)))
    try simp only [Act.put, List.setIfInBounds_toArray, List.set_cons_zero, List.set_cons_succ]
    refine wpAnyH_ready (rs := [4]) (by kernel_rfl) (by simp) ?_
    refine AllReadyH.cons (o := ⟨some 20, _, _, _, _, _⟩) rfl (fun K hK => ?_) AllReadyH.nil
    go_simp
    (with_reducible refine (HCB.out w1.drew HE1.out.drew).mono ?_); rintro e w3 ⟨A3, c3, rfl, i3, b3⟩; have d3 : Below w1.heap.size w1 w3 := btrans (Below.refl _ _).drew b3; obtain ⟨k0, k1, -, -⟩ := (HG1.out.below d3 HG1.out.lt).two
    go_wp2_with fail
    refine hK.out _ _ (by (try dsimp only); simp [*]) (fun hHeld => ?_)
    clear hK K
    try simp only [List.setIfInBounds_toArray, List.set_cons_zero, List.set_cons_succ]
    refine wpAnyH_ready (rs := [6]) (by kernel_rfl) (by simp) ?_
    refine AllReadyH.cons (o := ⟨some 22, _, _, _, _, _⟩) rfl (fun K hK => ?_) AllReadyH.nil
    go_simp
    (with_reducible refine (HBP.out _ w3 i3).mono ?_); rintro e w4 ⟨A4, c4, us, rfl, o4, b4⟩; have d4 : Below w1.heap.size w1 w4 := btrans d3 b4; obtain ⟨j0, j1, -, -⟩ := (HG1.out.below d4 HG1.out.lt).two
    go_wp2_with fail
    refine hK.out _ _ (by (try dsimp only); simp [*]) (fun hHeld => ?_)
    clear hK K
    try simp only [List.setIfInBounds_toArray, List.set_cons_zero, List.set_cons_succ]
    refine wpAnyH_take (i := 7) (oi := ⟨some 15, _, _, _, _, _⟩) (v := ?_) rfl (by kernel_rfl) (by kernel_rfl) (by kernel_rfl) (fun _ _ _ h => h) (Or.inl ⟨by rfl, ?_⟩) (by assumption) ?_
    rotate_left
    · (intro w hSw; (try dsimp only at hSw); go_simp; (try (with_reducible rfl)))
    try simp only [Act.put, List.setIfInBounds_toArray, List.set_cons_zero, List.set_cons_succ]
    refine wpAnyH_take (i := 8) (oi := ⟨some 23, _, _, _, _, _⟩) (v := ?_) rfl (by kernel_rfl) (by kernel_rfl) (by kernel_rfl) (fun _ _ _ h => h) (Or.inl ⟨by rfl, ?_⟩) (by assumption) ?_
    rotate_left
    · (intro w hSw; (try dsimp only at hSw); go_simp; (try (with_reducible rfl)))
    try simp only [Act.put, List.setIfInBounds_toArray, List.set_cons_zero, List.set_cons_succ]
    refine wpAnyH_take (i := 9) (oi := ⟨some 24, _, _, _, _, _⟩) (v := ?_) rfl (by kernel_rfl) (by kernel_rfl) (by kernel_rfl) (fun _ _ _ h => h) (Or.inl ⟨by rfl, ?_⟩) (by assumption) ?_
    rotate_left
    · (intro w hSw; (try dsimp only at hSw); go_simp; (try (with_reducible rfl)))
    try simp only [Act.put, List.setIfInBounds_toArray, List.set_cons_zero, List.set_cons_succ]
    refine wpAnyH_take (i := 10) (oi := ⟨some 8, _, _, _, _, _⟩) (v := ?_) rfl (by kernel_rfl) (by kernel_rfl) (by kernel_rfl) (fun _ _ _ h => h) (Or.inl ⟨by rfl, ?_⟩) (by assumption) ?_
    rotate_left
    · (intro w hSw; (try dsimp only at hSw); go_simp; (try (with_reducible rfl)))
    try simp only [Act.put, List.setIfInBounds_toArray, List.set_cons_zero, List.set_cons_succ]
    refine wpAnyH_take (i := 11) (oi := ⟨some 9, _, _, _, _, _⟩) (v := ?_) rfl (by kernel_rfl) (by kernel_rfl) (by kernel_rfl) (fun _ _ _ h => h) (Or.inl ⟨by rfl, ?_⟩) (by assumption) ?_
    rotate_left
    · (intro w hSw; (try dsimp only at hSw); go_simp; (try (with_reducible rfl)))
    try simp only [Act.put, List.setIfInBounds_toArray, List.set_cons_zero, List.set_cons_succ]
    refine wpAnyH_done (by kernel_rfl) ?_ _
    have e4 := btrans HE1.out d4
    have hz3 := (btrans HE1.out d3).size
    go_wp2_with fail
    go_ret2
    have h_ := RetN.yes (x := R.2) HOK.out e4
    unfold mosV
    rw [HV.out]
    exact h_
  · rw [okG_no hok] at HI
    have HNO := Lib.hid hok
    clear hok
    go_enter Try.func25, Try.ntmps25
    go_wp2_with fail
    refine HI.out.mono ?_
    rintro e w1 ⟨rfl, b1⟩
    have HE1 := Lib.hid (btrans HB0.out b1)
    clear p0 p1 b1
    go_wp2_with fail
    go_ret2
    exact RetN.no HNO.out HE1.out
set_option maxHeartbeats 4000000 in
set_option maxRecDepth 100000 in
theorem implBfp_any (s start d : Int) (v : Value) (l : List Ed) (w : World) (h : Edges w v l) (hl : l.length ≤ 1048576) :
    Calls Try.prog 27 #[.agg #[.int .i64 s, v], .int .i64 start, .int .i64 d] w (RetGr w (FireP s l start d) (rowN (bfpN s l start d))) := by
  obtain ⟨A, c, rfl, -⟩ := h.form
  have H := Lib.hid h
  have b0 : Below w.heap.size w (w.alloc (.cells #[.int .i64 s, .slice A l.length c] 30)) := (Below.refl _ _).alloc (Nat.le_refl _) _
  have HG0 := Lib.hid (Blk.new w 30 #[.int .i64 s, .slice A l.length c])
  obtain ⟨p0, p1, -, -⟩ := HG0.out.two
  have HI := Lib.hid (isFire_any s start d (.slice A l.length c) l _ (h.below b0) hl)
  have HB0 := Lib.hid b0
  clear h b0
  by_cases hok : FireP s l start d
  · rw [okG_yes hok] at HI
    have HOK := Lib.hid hok
    obtain ⟨n, x, m, rfl, rfl, rfl, hn, hx, hm, hg⟩ := fire_ok hok
    have hxn : (x : Int) < (n : Int) := by omega
    have HCB := Lib.hid (fun (W : World) (hW : Below w.heap.size w W) => closedBits_any n (.slice A l.length c) l W (H.out.below hW) hl hg hn)
    have HBP := Lib.hid (fun (vc : Value) (W : World) (hc : Nums W vc (clos l n)) => (show Calls Try.prog 63 #[.agg #[.int .u64 ((2 ^ x : Nat) : Int), .int .u64 0], vc, .int .i64 (m : Int)] W (RetB W (bplN l n m 8 (2 ^ x, 0))) from bestPlan_any n m vc l hg hn hm 8 (2 ^ x, 0) W (Nat.le_refl _) (nw_len _ _) (one_ok hx) hc))
    have HV : Hid (bstN l ((n : Nat) : Int).toNat ((m : Nat) : Int).toNat ((x : Nat) : Int).toNat = bplN l n m 8 (2 ^ x, 0)) := by show _ = _; unfold bstN; rw [Int.toNat_natCast, Int.toNat_natCast, Int.toNat_natCast]
    have hsh : IntKind.u64.wrap ((2 : Int) ^ x) = ((2 ^ x : Nat) : Int) := wrap_pow (by omega)
    clear hok hg
    generalize bplN l n m 8 (2 ^ x, 0) = R at *
    generalize 2 ^ x = z at *
    go_enter Try.func27, Try.ntmps27
    go_wp2_with fail
    refine HI.out.mono ?_
    rintro e w1 ⟨rfl, b1⟩
    have HE1 := Lib.hid (btrans HB0.out b1)
    have HG1 := Lib.hid (HG0.out.below b1 HG0.out.lt)
    clear p0 p1 b1
    obtain ⟨p0, p1, -, -⟩ := HG1.out.two
    go_wp2_with fail
    refine wp_region_held_drew (S := (fun w' : World => w'.cell? ⟨w.heap.size, 0, none⟩ = some (.int .i64 (n : Int)) ∧ w'.cell? ⟨w.heap.size, 1, none⟩ = some (.slice A l.length c))) (by kernel_rfl) (by (try dsimp only); simp [*]) (fun hHeld => ?_)
    change wpAnyH _ _ _ _ _ _ #[false, false, false, false, false, false, false, false, false, false, false, false] _ _
    refine wpAnyH_take (i := 0) (oi := ⟨some 16, _, _, _, _, _⟩) (v := ?_) rfl (by kernel_rfl) (by kernel_rfl) (by kernel_rfl) (fun _ _ _ h => h) (Or.inl ⟨by rfl, ?_⟩) (by assumption) ?_
    rotate_left
    · (intro w hSw; (try dsimp only at hSw); go_simp; (try (with_reducible rfl)))
    try simp only [Act.put, List.setIfInBounds_toArray, List.set_cons_zero, List.set_cons_succ]
    refine wpAnyH_take (i := 1) (oi := ⟨some 17, _, _, _, _, _⟩) (v := ?_) rfl (by kernel_rfl) (by kernel_rfl) (by kernel_rfl) (fun _ _ _ h => h) (Or.inl ⟨by rfl, ?_⟩) (by assumption) ?_
    rotate_left
    · (intro w hSw; (try dsimp only at hSw); go_simp; (try (with_reducible rfl)))
    try simp only [Act.put, List.setIfInBounds_toArray, List.set_cons_zero, List.set_cons_succ]
    refine wpAnyH_take (i := 2) (oi := ⟨some 18, _, _, _, _, _⟩) (v := ?_) rfl (by kernel_rfl) (by kernel_rfl) (by kernel_rfl) (fun _ _ _ h => h) (Or.inl ⟨by rfl, ?_⟩) (by assumption) ?_
    rotate_left
    · (intro w hSw; (try dsimp only at hSw); go_simp; (try (with_reducible rfl)))
    try simp only [Act.put, List.setIfInBounds_toArray, List.set_cons_zero, List.set_cons_succ]
    refine wpAnyH_take (i := 3) (oi := ⟨some 19, _, _, _, _, _⟩) (v := ?_) rfl (by kernel_rfl) (by kernel_rfl) (by kernel_rfl) (fun _ _ _ h => h) (Or.inl ⟨by rfl, ?_⟩) (by assumption) ?_
    rotate_left
    · (intro w hSw; (try dsimp only at hSw); go_simp; (try (with_reducible rfl)))
    try simp only [Act.put, List.setIfInBounds_toArray, List.set_cons_zero, List.set_cons_succ]
    refine wpAnyH_take (i := 5) (oi := ⟨some 21, _, _, _, _, _⟩) (v := ?_) rfl (by kernel_rfl) (by kernel_rfl) (by kernel_rfl) (fun _ _ _ h => h) (Or.inl ⟨by rfl, ?_⟩) (by assumption) ?_
    rotate_left
    · (intro w hSw; (try dsimp only at hSw); go_simp; (try (with_reducible rfl)))
    try simp only [Act.put, List.setIfInBounds_toArray, List.set_cons_zero, List.set_cons_succ]
    refine wpAnyH_ready (rs := [4]) (by kernel_rfl) (by simp) ?_
    refine AllReadyH.cons (o := ⟨some 20, _, _, _, _, _⟩) rfl (fun K hK => ?_) AllReadyH.nil
    go_simp
    (with_reducible refine (HCB.out w1.drew HE1.out.drew).mono ?_); rintro e w3 ⟨A3, c3, rfl, i3, b3⟩; have d3 : Below w1.heap.size w1 w3 := btrans (Below.refl _ _).drew b3; obtain ⟨k0, k1, -, -⟩ := (HG1.out.below d3 HG1.out.lt).two
    go_wp2_with fail
    refine hK.out _ _ (by (try dsimp only); simp [*]) (fun hHeld => ?_)
    clear hK K
    try simp only [List.setIfInBounds_toArray, List.set_cons_zero, List.set_cons_succ]
    refine wpAnyH_ready (rs := [6]) (by kernel_rfl) (by simp) ?_
    refine AllReadyH.cons (o := ⟨some 22, _, _, _, _, _⟩) rfl (fun K hK => ?_) AllReadyH.nil
    go_simp
    (with_reducible refine (HBP.out _ w3 i3).mono ?_); rintro e w4 ⟨A4, c4, us, rfl, o4, b4⟩; have d4 : Below w1.heap.size w1 w4 := btrans d3 b4; obtain ⟨j0, j1, -, -⟩ := (HG1.out.below d4 HG1.out.lt).two
    go_wp2_with fail
    refine hK.out _ _ (by (try dsimp only); simp [*]) (fun hHeld => ?_)
    clear hK K
    try simp only [List.setIfInBounds_toArray, List.set_cons_zero, List.set_cons_succ]
    refine wpAnyH_take (i := 7) (oi := ⟨some 15, _, _, _, _, _⟩) (v := ?_) rfl (by kernel_rfl) (by kernel_rfl) (by kernel_rfl) (fun _ _ _ h => h) (Or.inl ⟨by rfl, ?_⟩) (by assumption) ?_
    rotate_left
    · (intro w hSw; (try dsimp only at hSw); go_simp; (try (with_reducible rfl)))
    try simp only [Act.put, List.setIfInBounds_toArray, List.set_cons_zero, List.set_cons_succ]
    refine wpAnyH_take (i := 8) (oi := ⟨some 23, _, _, _, _, _⟩) (v := ?_) rfl (by kernel_rfl) (by kernel_rfl) (by kernel_rfl) (fun _ _ _ h => h) (Or.inl ⟨by rfl, ?_⟩) (by assumption) ?_
    rotate_left
    · (intro w hSw; (try dsimp only at hSw); go_simp; (try (with_reducible rfl)))
    try simp only [Act.put, List.setIfInBounds_toArray, List.set_cons_zero, List.set_cons_succ]
    refine wpAnyH_take (i := 9) (oi := ⟨some 24, _, _, _, _, _⟩) (v := ?_) rfl (by kernel_rfl) (by kernel_rfl) (by kernel_rfl) (fun _ _ _ h => h) (Or.inl ⟨by rfl, ?_⟩) (by assumption) ?_
    rotate_left
    · (intro w hSw; (try dsimp only at hSw); go_simp; (try (with_reducible rfl)))
    try simp only [Act.put, List.setIfInBounds_toArray, List.set_cons_zero, List.set_cons_succ]
    refine wpAnyH_take (i := 10) (oi := ⟨some 8, _, _, _, _, _⟩) (v := ?_) rfl (by kernel_rfl) (by kernel_rfl) (by kernel_rfl) (fun _ _ _ h => h) (Or.inl ⟨by rfl, ?_⟩) (by assumption) ?_
    rotate_left
    · (intro w hSw; (try dsimp only at hSw); go_simp; (try (with_reducible rfl)))
    try simp only [Act.put, List.setIfInBounds_toArray, List.set_cons_zero, List.set_cons_succ]
    refine wpAnyH_take (i := 11) (oi := ⟨some 9, _, _, _, _, _⟩) (v := ?_) rfl (by kernel_rfl) (by kernel_rfl) (by kernel_rfl) (fun _ _ _ h => h) (Or.inl ⟨by rfl, ?_⟩) (by assumption) ?_
    rotate_left
    · (intro w hSw; (try dsimp only at hSw); go_simp; (try (with_reducible rfl)))
    try simp only [Act.put, List.setIfInBounds_toArray, List.set_cons_zero, List.set_cons_succ]
    refine wpAnyH_done (by kernel_rfl) ?_ _
    have e4 := btrans HE1.out d4
    have hz3 := (btrans HE1.out d3).size
    go_wp2_with fail
    go_ret2
    have o9 := o4.base hz3
    unfold bfpN
    rw [HV.out]
    exact RetGr.yes HOK.out o9 e4
  · rw [okG_no hok] at HI
    have HNO := Lib.hid hok
    clear hok
    go_enter Try.func27, Try.ntmps27
    go_wp2_with fail
    refine HI.out.mono ?_
    rintro e w1 ⟨rfl, b1⟩
    have HE1 := Lib.hid (btrans HB0.out b1)
    clear p0 p1 b1
    go_wp2_with fail
    go_ret2
    exact RetGr.nil HNO.out HE1.out
set_option maxHeartbeats 4000000 in
set_option maxRecDepth 100000 in
theorem specMos_any (s start d : Int) (v : Value) (l : List Ed) (w : World) (h : Edges w v l) (hl : l.length ≤ 1048576) (hs1 : -9223372036854775808 ≤ s) (hs2 : s ≤ 9223372036854775807) :
    Calls Try.prog 24 #[.agg #[.int .i64 s, v], .int .i64 start, .int .i64 d] w (RetN w (FireP s l start d) (mosV s l start d)) := by
  obtain ⟨A, c, rfl, -⟩ := h.form
  have H := Lib.hid h
  have b0 : Below w.heap.size w (w.alloc (.cells #[.int .i64 s, .slice A l.length c] 30)) := (Below.refl _ _).alloc (Nat.le_refl _) _
  have HG0 := Lib.hid (Blk.new w 30 #[.int .i64 s, .slice A l.length c])
  obtain ⟨p0, p1, -, -⟩ := HG0.out.two
  have HI := Lib.hid (l8Good_any s start d (.slice A l.length c) l _ (h.below b0) hl hs1 hs2)
  have HB0 := Lib.hid b0
  clear h b0
  by_cases hok : FireP s l start d
  · rw [okG_yes hok] at HI
    have HOK := Lib.hid hok
    obtain ⟨n, x, m, rfl, rfl, rfl, hn, hx, hm, hg⟩ := fire_ok hok
    have hxn : (x : Int) < (n : Int) := by omega
    have HBP := Lib.hid (fun (W : World) (hW : Below w.heap.size w W) => l8Best_any n m (.slice A l.length c) l hl hg hn hm 8 (2 ^ x, 0) (.slice (some ⟨W.heap.size, 0, none⟩) 1 1) (.slice none 0 0) (W.alloc (.cells #[.int .i64 (x : Int)] 3)) (Nat.le_refl _) (nw_len _ _) (one_ok hx) (H.out.below (hW.alloc hW.size _)) (by show Ints _ _ (nw (bitB (2 ^ x)) n); rw [nw_one hx]; exact one_reads (Blk.new W 3 #[.int .i64 (x : Int)])) (by show Ints _ _ (nw (bitB 0) n); rw [nw_z0]; exact Reads.of_own (World.ownsRow_nil _ 0 3 1)))
    have HV : Hid (bstN l ((n : Nat) : Int).toNat ((m : Nat) : Int).toNat ((x : Nat) : Int).toNat = bplN l n m 8 (2 ^ x, 0)) := by show _ = _; unfold bstN; rw [Int.toNat_natCast, Int.toNat_natCast, Int.toNat_natCast]
    clear hok hg
    generalize bplN l n m 8 (2 ^ x, 0) = R at *
    go_enter Try.func24, Try.ntmps24
    go_wp2_with fail
    refine HI.out.mono ?_
    rintro e w1 ⟨rfl, b1⟩
    have HE1 := Lib.hid (btrans HB0.out b1)
    have HG1 := Lib.hid (HG0.out.below b1 HG0.out.lt)
    have HB1 := Lib.hid (HBP.out w1 HE1.out)
    clear p0 p1 b1
    obtain ⟨p0, p1, -, -⟩ := HG1.out.two
    go_wp2_with fail
    refine HB1.out.mono ?_
    rintro e w4 ⟨A4, c4, us, rfl, o4, b4⟩
    have e4 := btrans (HE1.out.alloc HE1.out.size (.cells #[.int .i64 (x : Int)] 3)) b4
    have hz3 := (HE1.out.alloc HE1.out.size (.cells #[.int .i64 (x : Int)] 3)).size
    go_wp2_with fail
    go_ret2
    have h_ := RetN.yes (x := R.2) HOK.out e4
    unfold mosV
    rw [HV.out]
    exact h_
  · rw [okG_no hok] at HI
    have HNO := Lib.hid hok
    clear hok
    go_enter Try.func24, Try.ntmps24
    go_wp2_with fail
    refine HI.out.mono ?_
    rintro e w1 ⟨rfl, b1⟩
    have HE1 := Lib.hid (btrans HB0.out b1)
    clear p0 p1 b1
    go_wp2_with fail
    go_ret2
    exact RetN.no HNO.out HE1.out
set_option maxHeartbeats 4000000 in
set_option maxRecDepth 100000 in
theorem specBfp_any (s start d : Int) (v : Value) (l : List Ed) (w : World) (h : Edges w v l) (hl : l.length ≤ 1048576) (hs1 : -9223372036854775808 ≤ s) (hs2 : s ≤ 9223372036854775807) :
    Calls Try.prog 26 #[.agg #[.int .i64 s, v], .int .i64 start, .int .i64 d] w (RetGr w (FireP s l start d) (rowN (bfpN s l start d))) := by
  obtain ⟨A, c, rfl, -⟩ := h.form
  have H := Lib.hid h
  have b0 : Below w.heap.size w (w.alloc (.cells #[.int .i64 s, .slice A l.length c] 30)) := (Below.refl _ _).alloc (Nat.le_refl _) _
  have HG0 := Lib.hid (Blk.new w 30 #[.int .i64 s, .slice A l.length c])
  obtain ⟨p0, p1, -, -⟩ := HG0.out.two
  have HI := Lib.hid (l8Good_any s start d (.slice A l.length c) l _ (h.below b0) hl hs1 hs2)
  have HB0 := Lib.hid b0
  clear h b0
  by_cases hok : FireP s l start d
  · rw [okG_yes hok] at HI
    have HOK := Lib.hid hok
    obtain ⟨n, x, m, rfl, rfl, rfl, hn, hx, hm, hg⟩ := fire_ok hok
    have hxn : (x : Int) < (n : Int) := by omega
    have HBP := Lib.hid (fun (W : World) (hW : Below w.heap.size w W) => l8Best_any n m (.slice A l.length c) l hl hg hn hm 8 (2 ^ x, 0) (.slice (some ⟨W.heap.size, 0, none⟩) 1 1) (.slice none 0 0) (W.alloc (.cells #[.int .i64 (x : Int)] 3)) (Nat.le_refl _) (nw_len _ _) (one_ok hx) (H.out.below (hW.alloc hW.size _)) (by show Ints _ _ (nw (bitB (2 ^ x)) n); rw [nw_one hx]; exact one_reads (Blk.new W 3 #[.int .i64 (x : Int)])) (by show Ints _ _ (nw (bitB 0) n); rw [nw_z0]; exact Reads.of_own (World.ownsRow_nil _ 0 3 1)))
    have HV : Hid (bstN l ((n : Nat) : Int).toNat ((m : Nat) : Int).toNat ((x : Nat) : Int).toNat = bplN l n m 8 (2 ^ x, 0)) := by show _ = _; unfold bstN; rw [Int.toNat_natCast, Int.toNat_natCast, Int.toNat_natCast]
    clear hok hg
    generalize bplN l n m 8 (2 ^ x, 0) = R at *
    go_enter Try.func26, Try.ntmps26
    go_wp2_with fail
    refine HI.out.mono ?_
    rintro e w1 ⟨rfl, b1⟩
    have HE1 := Lib.hid (btrans HB0.out b1)
    have HG1 := Lib.hid (HG0.out.below b1 HG0.out.lt)
    have HB1 := Lib.hid (HBP.out w1 HE1.out)
    clear p0 p1 b1
    obtain ⟨p0, p1, -, -⟩ := HG1.out.two
    go_wp2_with fail
    refine HB1.out.mono ?_
    rintro e w4 ⟨A4, c4, us, rfl, o4, b4⟩
    have e4 := btrans (HE1.out.alloc HE1.out.size (.cells #[.int .i64 (x : Int)] 3)) b4
    have hz3 := (HE1.out.alloc HE1.out.size (.cells #[.int .i64 (x : Int)] 3)).size
    go_wp2_with fail
    go_ret2
    have o9 := o4.base hz3
    unfold bfpN
    rw [HV.out]
    exact RetGr.yes HOK.out o9 e4
  · rw [okG_no hok] at HI
    have HNO := Lib.hid hok
    clear hok
    go_enter Try.func26, Try.ntmps26
    go_wp2_with fail
    refine HI.out.mono ?_
    rintro e w1 ⟨rfl, b1⟩
    have HE1 := Lib.hid (btrans HB0.out b1)
    clear p0 p1 b1
    go_wp2_with fail
    go_ret2
    exact RetGr.no HNO.out (own_base (own_new0 w1 37 1) HE1.out.size) (HE1.out.alloc HE1.out.size _)
theorem bfp_len (s start d : Int) (l : List Ed) : gridl.tot (gdG (FireP s l start d) (rowN (bfpN s l start d))) ≤ 1048576 ∧ (gdG (FireP s l start d) (rowN (bfpN s l start d))).length ≤ 1048576 := by
  by_cases hp : FireP s l start d
  · rw [gdG_yes hp, rowN_len]
    obtain ⟨n, x, m, rfl, rfl, rfl, hn, hx, hm, hg⟩ := fire_ok hp
    have h2 : (bfpN (n : Int) l (x : Int) (m : Int)).length ≤ 8 := by
      unfold bfpN bstN
      rw [Int.toNat_natCast, Int.toNat_natCast, Int.toNat_natCast]
      exact (bplN_len hn 8 _ (one_ok hx)).1
    have h1 : gridl.tot (rowN (bfpN (n : Int) l (x : Int) (m : Int))) ≤ (bfpN (n : Int) l (x : Int) (m : Int)).length * 8 := by
      unfold gridl.tot rowN
      generalize bfpN (n : Int) l (x : Int) (m : Int) = L
      induction L with
      | nil => simp
      | cons c L ih =>
        have : (ndN c).length ≤ 8 := nw_len _ _
        simp only [List.map_cons, List.sum_cons, List.length_cons] at ih ⊢
        omega
    omega
  · rw [gdG_no hp]; simp [gridl.tot]
end Go.Proofs.Ytdhbaegkogklgaa.fires

/- The sum of saved nodes: the contracts of both SavedSum. -/
namespace Go.Proofs.Ytdhbaegkogklgaa.fires
open Go.RowKit P2 words edges ints owns good adjs fns sets rets covs balls bitsI bags ups grid gridr gridl minmax
set_option linter.unusedVariables false

/-- a valid Graph, and so many defenders -/
def SumP (s : Int) (l : List Ed) (d : Int) : Prop := P2.Good s l ∧ 0 ≤ d ∧ d ≤ 3
/-- the saved nodes over the first k starts -/
def sumK (l : List Ed) (n d : Nat) : Nat → Int
  | 0 => 0
  | k + 1 => sumK l n d k + (bstN l n d k).2
def sumV (s : Int) (l : List Ed) (d : Int) : Int := sumK l s.toNat d.toNat s.toNat
theorem bst_in {l : List Ed} {n d x : Nat} (hn : n ≤ 8) (hx : x < n) : -1 ≤ (bstN l n d x).2 ∧ (bstN l n d x).2 ≤ 8 := by
  have := bplN_len (l := l) (d := d) hn 8 _ (one_ok hx)
  unfold bstN
  omega
theorem sum_in {l : List Ed} {n d : Nat} (hn : n ≤ 8) : ∀ k, k ≤ n → -(k : Int) ≤ sumK l n d k ∧ sumK l n d k ≤ 8 * (k : Int)
  | 0, _ => ⟨by show -(0 : Int) ≤ 0; omega, by show (0 : Int) ≤ 8 * 0; omega⟩
  | k + 1, hk => by
    have h1 := sum_in (l := l) (d := d) hn k (by omega)
    have h2 := bst_in (l := l) (d := d) hn (show k < n by omega)
    show _ ≤ sumK l n d k + (bstN l n d k).2 ∧ sumK l n d k + (bstN l n d k).2 ≤ _
    omega
set_option maxHeartbeats 4000000 in
set_option maxRecDepth 100000 in
theorem implSum_any (s d : Int) (v : Value) (l : List Ed) (w : World) (h : Edges w v l) (hl : l.length ≤ 1048576) :
    Calls Try.prog 29 #[.agg #[.int .i64 s, v], .int .i64 d] w (RetN w (SumP s l d) (sumV s l d)) := by
  obtain ⟨A, c, rfl, -⟩ := h.form
  have H := Lib.hid h
  have b0 : Below w.heap.size w (w.alloc (.cells #[.int .i64 s, .slice A l.length c] 30)) := (Below.refl _ _).alloc (Nat.le_refl _) _
  have HG0 := Lib.hid (Blk.new w 30 #[.int .i64 s, .slice A l.length c])
  obtain ⟨p0, p1, -, -⟩ := HG0.out.two
  have HN := Lib.hid (implIsGraph_any s _ l _ (h.below b0) hl)
  have HB0 := Lib.hid b0
  clear h b0
  by_cases hgd : P2.Good s l
  · rw [goodB_yes hgd] at HN
    by_cases hd0 : d < 0
    · have HNO : Hid (¬ SumP s l d) := fun h => by have := h.2.1; omega
      have f1 : decide (d < 0) = true := decide_eq_true hd0
      clear hgd
      go_enter Try.func29, Try.ntmps29
      go_wp2_with fail
      refine HN.out.mono ?_
      rintro e w1 ⟨rfl, b1⟩
      have HE1 := Lib.hid (btrans HB0.out b1)
      clear p0 p1 b1
      go_wp2_with fail
      go_ret2
      exact RetN.no HNO.out HE1.out
    · have f1 : decide (d < 0) = false := decide_eq_false hd0
      by_cases hd3 : 3 < d
      · have HNO : Hid (¬ SumP s l d) := fun h => by have := h.2.2; omega
        have f2 : decide (3 < d) = true := decide_eq_true hd3
        clear hgd
        go_enter Try.func29, Try.ntmps29
        go_wp2_with fail
        refine HN.out.mono ?_
        rintro e w1 ⟨rfl, b1⟩
        have HE1 := Lib.hid (btrans HB0.out b1)
        clear p0 p1 b1
        go_wp2_with fail
        go_ret2
        exact RetN.no HNO.out HE1.out
      · have f2 : decide (3 < d) = false := decide_eq_false hd3
        have HOK : Hid (SumP s l d) := ⟨hgd, by omega, by omega⟩
        have h0 := hgd.1
        have h8 := hgd.2.1
        obtain ⟨n, rfl⟩ : ∃ n : Nat, s = (n : Int) := ⟨s.toNat, by omega⟩
        obtain ⟨m, rfl⟩ : ∃ m : Nat, d = (m : Int) := ⟨d.toNat, by omega⟩
        have hn : n ≤ 8 := by omega
        have HV : Hid (sumV (n : Int) l (m : Int) = sumK l n m n) := by show _ = _; unfold sumV; rw [Int.toNat_natCast, Int.toNat_natCast]
        have HM := Lib.hid (fun (x : Nat) (hx : x < n) (W : World) (hW : Below w.heap.size w W) => (by
          have h_ := implMos_any (n : Int) (x : Int) (m : Int) (.slice A l.length c) l W (H.out.below hW) hl
          have hf : FireP (n : Int) l (x : Int) (m : Int) := ⟨nodesB_iff.2 ⟨hgd, fun y hy => by rw [List.mem_singleton.1 hy]; omega⟩, by omega, by omega⟩
          unfold RetN mosV at h_
          rw [szG_yes hf, okG_yes hf, Int.toNat_natCast, Int.toNat_natCast, Int.toNat_natCast] at h_
          exact h_ : Calls Try.prog 25 #[.agg #[.int .i64 (n : Int), .slice A l.length c], .int .i64 (x : Int), .int .i64 (m : Int)] W fun e w' => e = .returned (.tuple #[.int .i64 (bstN l n m x).2, .bool true]) ∧ Below W.heap.size W w'))
        have HK0 : Hid (sumK l n m 0 = 0) := rfl
        have HKS : Hid (∀ k, sumK l n m (k + 1) = sumK l n m k + (bstN l n m k).2) := fun k => rfl
        have HKI := Lib.hid (fun k (hk : k ≤ n) => sum_in (l := l) (d := m) hn k hk)
        have HBI := Lib.hid (fun x (hx : x < n) => bst_in (l := l) (d := m) hn hx)
        clear hgd
        generalize bstN l n m = BN at *
        generalize sumK l n m = SK at *
        go_enter Try.func29, Try.ntmps29
        go_wp2_with fail
        refine HN.out.mono ?_
        rintro e w1 ⟨rfl, b1⟩
        have HE1 := Lib.hid (btrans HB0.out b1)
        have HG1 := Lib.hid (HG0.out.below b1 HG0.out.lt)
        clear p0 p1 b1
        obtain ⟨p0, p1, -, -⟩ := HG1.out.two
        go_wp2_with fail
        clear p0 p1
        go_loopg [6, 23] n (fun g sv xv wr => ∃ x : Nat, x + g = n ∧ xv = .int .i64 (x : Int) ∧ sv = .int .i64 (SK x) ∧ Blk wr w.heap.size 30 #[.int .i64 (n : Int), .slice A l.length c] ∧ Below w.heap.size w wr)
        case atStart => exact ⟨0, by omega, rfl, by rw [HK0.out], HG1.out, HE1.out⟩
        case round =>
          clear HK0 HG1 HE1
          obtain ⟨x, hxg, rfl, rfl, hgb, hB⟩ := hrel
          obtain ⟨p0, p1, -, -⟩ := hgb.two
          have HB := Lib.hid hB
          have HG := Lib.hid hgb
          cases gk with
          | zero =>
            obtain rfl : x = n := by omega
            clear hgb hB
            go_wp2_with fail
            go_ret2
            have h_ := RetN.yes (x := SK x) HOK.out HB.out
            rw [HV.out]
            exact h_
          | succ g2 =>
            have hlt : x < n := by omega
            have hlt' : (x : Int) < (n : Int) := by omega
            have HMX := Lib.hid (HM.out x hlt wr HB.out)
            have h1 := HKI.out x (by omega)
            have h2 := HBI.out x hlt
            have hw1 : IntKind.i64.wrap (SK x + (BN x).2) = SK (x + 1) := by rw [IntWalk.i64_in _ (by omega), HKS.out]
            clear hgb hB h1 h2
            go_wp2_with fail
            refine HMX.out.mono ?_
            rintro e w2 ⟨rfl, b2⟩
            have HG2 := Lib.hid (HG.out.below b2 HG.out.lt)
            have HB2 := Lib.hid (btrans HB.out b2)
            clear p0 p1 b2
            go_wp2_with fail
            go_roundg g2
            case measure => omega
            case rel => exact ⟨x + 1, by omega, by go_num, rfl, HG2.out, HB2.out⟩
  · rw [goodB_no hgd] at HN
    have HNO : Hid (¬ SumP s l d) := fun h => hgd h.1
    clear hgd
    go_enter Try.func29, Try.ntmps29
    go_wp2_with fail
    refine HN.out.mono ?_
    rintro e w1 ⟨rfl, b1⟩
    have HE1 := Lib.hid (btrans HB0.out b1)
    clear p0 p1 b1
    go_wp2_with fail
    go_ret2
    exact RetN.no HNO.out HE1.out
set_option maxHeartbeats 4000000 in
set_option maxRecDepth 100000 in
theorem specSum_any (s d : Int) (v : Value) (l : List Ed) (w : World) (h : Edges w v l) (hl : l.length ≤ 1048576) (hs1 : -9223372036854775808 ≤ s) (hs2 : s ≤ 9223372036854775807) :
    Calls Try.prog 28 #[.agg #[.int .i64 s, v], .int .i64 d] w (RetN w (SumP s l d) (sumV s l d)) := by
  obtain ⟨A, c, rfl, -⟩ := h.form
  have H := Lib.hid h
  have b0 : Below w.heap.size w (w.alloc (.cells #[.int .i64 s, .slice A l.length c] 30)) := (Below.refl _ _).alloc (Nat.le_refl _) _
  have HG0 := Lib.hid (Blk.new w 30 #[.int .i64 s, .slice A l.length c])
  obtain ⟨p0, p1, -, -⟩ := HG0.out.two
  have HN := Lib.hid (l2Good_any s _ l _ (h.below b0) hl hs1 hs2)
  have HIN := Lib.hid (fun (W : World) => l1In_any d 0 3 W)
  have HB0 := Lib.hid b0
  clear h b0
  by_cases hgd : P2.Good s l
  · rw [goodB_yes hgd] at HN
    by_cases hd : 0 ≤ d ∧ d ≤ 3
    · have hin : inB d 0 3 = true := by unfold inB; exact decide_eq_true hd
      rw [hin] at HIN
      have HOK : Hid (SumP s l d) := ⟨hgd, hd.1, hd.2⟩
      have h0 := hgd.1
      have h8 := hgd.2.1
      obtain ⟨n, rfl⟩ : ∃ n : Nat, s = (n : Int) := ⟨s.toNat, by omega⟩
      obtain ⟨m, rfl⟩ : ∃ m : Nat, d = (m : Int) := ⟨d.toNat, by omega⟩
      have hn : n ≤ 8 := by omega
      have hm : m ≤ 3 := by omega
      have HV : Hid (sumV (n : Int) l (m : Int) = sumK l n m n) := by show _ = _; unfold sumV; rw [Int.toNat_natCast, Int.toNat_natCast]
      have HBP := Lib.hid (fun (x : Nat) (hx : x < n) (W : World) (hW : Below w.heap.size w W) => show Calls Try.prog 61 #[.agg #[.int .i64 (n : Int), .slice A l.length c], .agg #[.slice (some ⟨W.heap.size, 0, none⟩) 1 1, .slice none 0 0], .int .i64 (m : Int)] (W.alloc (.cells #[.int .i64 (x : Int)] 3)) (RetB (W.alloc (.cells #[.int .i64 (x : Int)] 3)) (bstN l n m x)) from l8Best_any n m (.slice A l.length c) l hl hgd hn hm 8 (2 ^ x, 0) (.slice (some ⟨W.heap.size, 0, none⟩) 1 1) (.slice none 0 0) (W.alloc (.cells #[.int .i64 (x : Int)] 3)) (Nat.le_refl _) (nw_len _ _) (one_ok hx) (H.out.below (hW.alloc hW.size _)) (by show Ints _ _ (nw (bitB (2 ^ x)) n); rw [nw_one hx]; exact one_reads (Blk.new W 3 #[.int .i64 (x : Int)])) (by show Ints _ _ (nw (bitB 0) n); rw [nw_z0]; exact Reads.of_own (World.ownsRow_nil _ 0 3 1)))
      have HK0 : Hid (sumK l n m 0 = 0) := rfl
      have HKS : Hid (∀ k, sumK l n m (k + 1) = sumK l n m k + (bstN l n m k).2) := fun k => rfl
      have HKI := Lib.hid (fun k (hk : k ≤ n) => sum_in (l := l) (d := m) hn k hk)
      have HBI := Lib.hid (fun x (hx : x < n) => bst_in (l := l) (d := m) hn hx)
      clear hgd hd hin
      generalize bstN l n m = BN at *
      generalize sumK l n m = SK at *
      go_enter Try.func28, Try.ntmps28
      go_wp2_with fail
      refine HN.out.mono ?_
      rintro e w1 ⟨rfl, b1⟩
      have HE1 := Lib.hid (btrans HB0.out b1)
      have HG1 := Lib.hid (HG0.out.below b1 HG0.out.lt)
      clear p0 p1 b1
      obtain ⟨p0, p1, -, -⟩ := HG1.out.two
      go_wp2_with fail
      refine (HIN.out w1).mono ?_
      rintro e w' ⟨rfl, rfl⟩
      go_wp2_with fail
      clear p0 p1
      go_loopg [6, 7] n (fun g sv xv wr => ∃ x : Nat, x + g = n ∧ xv = .int .i64 (x : Int) ∧ sv = .int .i64 (SK x) ∧ Blk wr w.heap.size 30 #[.int .i64 (n : Int), .slice A l.length c] ∧ Below w.heap.size w wr)
      case atStart => exact ⟨0, by omega, rfl, by rw [HK0.out], HG1.out, HE1.out⟩
      case round =>
        clear HK0 HG1 HE1
        obtain ⟨x, hxg, rfl, rfl, hgb, hB⟩ := hrel
        obtain ⟨p0, p1, -, -⟩ := hgb.two
        have HB := Lib.hid hB
        have HG := Lib.hid hgb
        cases gk with
        | zero =>
          obtain rfl : x = n := by omega
          clear hgb hB
          go_wp2_with fail
          go_ret2
          have h_ := RetN.yes (x := SK x) HOK.out HB.out
          rw [HV.out]
          exact h_
        | succ g2 =>
          have hlt : x < n := by omega
          have hlt' : (x : Int) < (n : Int) := by omega
          have HMX := Lib.hid (HBP.out x hlt wr HB.out)
          have h1 := HKI.out x (by omega)
          have h2 := HBI.out x hlt
          have hw1 : IntKind.i64.wrap (SK x + (BN x).2) = SK (x + 1) := by rw [IntWalk.i64_in _ (by omega), HKS.out]
          clear hgb hB h1 h2
          go_wp2_with fail
          refine HMX.out.mono ?_
          rintro e w2 ⟨A4, c4, us, rfl, o4, b2_⟩
          have b2 : Below wr.heap.size wr w2 := btrans ((Below.refl _ _).alloc (Nat.le_refl _) _) b2_
          have HG2 := Lib.hid (HG.out.below b2 HG.out.lt)
          have HB2 := Lib.hid (btrans HB.out b2)
          clear p0 p1 b2 b2_ o4
          go_wp2_with fail
          go_roundg g2
          case measure => omega
          case rel => exact ⟨x + 1, by omega, by go_num, rfl, HG2.out, HB2.out⟩
    · have hin : inB d 0 3 = false := by unfold inB; exact decide_eq_false hd
      rw [hin] at HIN
      have HNO : Hid (¬ SumP s l d) := fun h => hd h.2
      clear hgd hd hin
      go_enter Try.func28, Try.ntmps28
      go_wp2_with fail
      refine HN.out.mono ?_
      rintro e w1 ⟨rfl, b1⟩
      have HE1 := Lib.hid (btrans HB0.out b1)
      clear p0 p1 b1
      go_wp2_with fail
      refine (HIN.out w1).mono ?_
      rintro e w' ⟨rfl, rfl⟩
      go_wp2_with fail
      go_ret2
      exact RetN.no HNO.out HE1.out
  · rw [goodB_no hgd] at HN
    have HNO : Hid (¬ SumP s l d) := fun h => hgd h.1
    clear hgd
    go_enter Try.func28, Try.ntmps28
    go_wp2_with fail
    refine HN.out.mono ?_
    rintro e w1 ⟨rfl, b1⟩
    have HE1 := Lib.hid (btrans HB0.out b1)
    clear p0 p1 b1
    go_wp2_with fail
    go_ret2
    exact RetN.no HNO.out HE1.out
end Go.Proofs.Ytdhbaegkogklgaa.fires
