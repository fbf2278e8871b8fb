/- The contracts of both CopLists. -/
import Derived.Handy
import Derived.Test.YtpeobnmfndelhaaK05
import Derived.Test.YtpeobnmfndelhaaK06
import Derived.Test.YtpeobnmfndelhaaK09
import Derived.Test.YtpeobnmfndelhaaK07
import Derived.Test.YtpeobnmfndelhaaK04
import Derived.Test.YtpeobnmfndelhaaK03
import Derived.StillTailTactics
namespace Go.Proofs.Ytpeobnmfndelhaa.lists
open Go.RowKit P2 words edges ints good adjs fns sets rets apps gridr grid filled cops
set_option linter.unusedVariables false

def RowsOk (rows : List (List Int)) : Prop := gridl.tot rows ≤ 1048576 ∧ rows.length ≤ 1048576
theorem tot_rows {M : Nat} : ∀ (rows : List (List Int)), (∀ r ∈ rows, r.length ≤ M) → gridl.tot rows ≤ rows.length * M
  | [], _ => by simp [gridl.tot]
  | r :: rs, h => by
    have h1 := h r List.mem_cons_self
    have h2 := tot_rows rs fun q hq => h q (List.mem_cons_of_mem _ hq)
    have h3 : gridl.tot (r :: rs) = r.length + gridl.tot rs := by simp [gridl.tot]
    rw [h3, List.length_cons, Nat.succ_mul]; omega
theorem rows_ok {M : Nat} {rows : List (List Int)} (h : ∀ r ∈ rows, r.length ≤ M) (hM : M ≤ 1000) (hl : rows.length ≤ 1000) : RowsOk rows := by
  have h1 := tot_rows rows h
  have h2 := Nat.mul_le_mul hl hM
  exact ⟨by omega, by omega⟩
theorem rows_nil : RowsOk [] := ⟨by simp [gridl.tot], by simp⟩
theorem lists_small {n k : Nat} (hn : n ≤ 8) (hk : k ≤ 3) (f : Nat) : (listsN n k f).length ≤ 512 := by
  have h1 := lists_len hn k f
  have h2 := Nat.pow_le_pow_right (show 0 < 8 by decide) hk
  omega
theorem rowsN_ok {Ls : List (List Nat)} (h : ∀ L ∈ Ls, L.length ≤ 3) (hl : Ls.length ≤ 1000) : RowsOk (rowsN Ls) :=
  rows_ok (M := 3) (fun r hr => by obtain ⟨L, hL, rfl⟩ := List.mem_map.1 hr; rw [castL_len]; exact h L hL) (by omega) (by rw [rowsN_len]; exact hl)
noncomputable def copL (s k : Int) : List (List Int) := rowsN (listsN s.toNat k.toNat 0)
theorem copL_ok (s k : Int) (l : List Ed) : RowsOk (gdG (FieldP s l k) (copL s k)) := by
  by_cases h : FieldP s l k
  · rw [gdG_yes h]
    have h1 := h.1.2.1
    have h2 := h.2.2.2
    refine rowsN_ok (fun L hL => ?_) ?_
    · rw [(lists_mem _ _ L hL).1]; omega
    · have := lists_small (n := s.toNat) (k := k.toNat) (by omega) (by omega) 0; omega
  · rw [gdG_no h]; exact rows_nil
theorem field_some {s k : Int} {l : List Ed} : FieldP s l k ↔ SomeP s l ∧ 1 ≤ k ∧ k ≤ 3 := ⟨fun h => ⟨⟨h.1, h.2.1⟩, h.2.2⟩, fun h => ⟨h.1.1, h.1.2, h.2⟩⟩
theorem listsFrom_zero (n k : Nat) (hn : n ≤ 8) (hk : k ≤ 3) (w : World) : Calls Try.prog 57 #[.int .i64 0, .int .i64 (n : Int), .int .i64 (k : Int)] w (RetL w (listsN n k 0)) := listsFrom_any n hn k hk 0 (Nat.zero_le _) w
set_option maxHeartbeats 1000000 in
set_option maxRecDepth 100000 in
theorem implCopL_any (s k : Int) (v : Value) (l : List Ed) (w : World) (h : Edges w v l) (hl : l.length ≤ 1048576) :
    Calls Try.prog 123 #[.agg #[.int .i64 s, v], .int .i64 k] w (RetGr w (FieldP s l k) (copL s k)) := by
  obtain ⟨A, c, rfl, -⟩ := h.form
  have b0 : Below w.heap.size w (w.alloc (.cells #[.int .i64 s, .slice A l.length c] 30)) := (Below.refl _ _).alloc (Nat.le_refl _) _
  have g0 := Blk.new w 30 #[.int .i64 s, .slice A l.length c]
  have HG := Lib.hid (isFilled_any s _ l _ (h.below b0) hl)
  clear h
  by_cases hsm : SomeP s l
  · rw [okG_yes hsm] at HG
    by_cases h1 : k < 1
    · have HN : Hid (¬ FieldP s l k) := fun h => by have := h.2.2.1; omega
      have d1 : decide (k < 1) = true := decide_eq_true h1
      clear hsm h1
      go_enter Try.func123, Try.ntmps123
      go_wp2_with fail
      refine HG.out.mono ?_
      rintro e w1 ⟨rfl, b1⟩
      go_wp2_with fail
      go_ret2
      exact RetGr.nil HN.out (btrans b0 b1)
    · have d1 : decide (k < 1) = false := decide_eq_false h1
      by_cases h3 : 3 < k
      · have HN : Hid (¬ FieldP s l k) := fun h => by have := h.2.2.2; omega
        have d2 : decide (3 < k) = true := decide_eq_true h3
        clear hsm h1 h3
        go_enter Try.func123, Try.ntmps123
        go_wp2_with fail
        refine HG.out.mono ?_
        rintro e w1 ⟨rfl, b1⟩
        go_wp2_with fail
        go_ret2
        exact RetGr.nil HN.out (btrans b0 b1)
      · have d2 : decide (3 < k) = false := decide_eq_false h3
        have HY : Hid (FieldP s l k) := ⟨hsm.1, hsm.2, by omega, by omega⟩
        obtain ⟨n, rfl⟩ : ∃ n : Nat, s = (n : Int) := ⟨s.toNat, by have := hsm.2; omega⟩
        obtain ⟨m, rfl⟩ : ∃ m : Nat, k = (m : Int) := ⟨k.toNat, by omega⟩
        have HV : Hid (copL (n : Int) (m : Int) = rowsN (listsN n m 0)) := rfl
        have HL := Lib.hid (fun (W : World) => listsFrom_zero n m (by have := hsm.1.2.1; omega) (by omega) W)
        rw [HV.out]
        clear hsm h1 h3 HV
        go_enter Try.func123, Try.ntmps123
        go_wp2_with fail
        refine HG.out.mono ?_
        rintro e w1 ⟨rfl, b1⟩
        have e1 := btrans b0 b1
        have g1 := g0.below b1 g0.lt
        clear HG b0 b1 g0
        obtain ⟨p0, p1, -, -⟩ := g1.two
        go_wp2_with fail
        refine (HL.out w1).mono ?_
        rintro e w2 ⟨A2, c2, us, rfl, o2, b2⟩
        go_wp2_with fail
        go_ret2
        exact RetGr.yes HY.out (o2.base e1.size) (btrans e1 b2)
  · rw [okG_no hsm] at HG
    have HN : Hid (¬ FieldP s l k) := fun h => hsm ⟨h.1, h.2.1⟩
    clear hsm
    go_enter Try.func123, Try.ntmps123
    go_wp2_with fail
    refine HG.out.mono ?_
    rintro e w1 ⟨rfl, b1⟩
    go_wp2_with fail
    go_ret2
    exact RetGr.nil HN.out (btrans b0 b1)
end Go.Proofs.Ytpeobnmfndelhaa.lists

/- The times of a game of cops and a robber, round by round. It imports nothing of the program. -/
namespace Go.Proofs.Ytpeobnmfndelhaa.times
set_option linter.unusedVariables false

/-- places of the cops, nodes of the robber; to which nodes the robber can move, which nodes a place takes, to which places cops can move -/
structure Game where
  P : Nat
  n : Nat
  ball : Nat → Nat → Bool
  tk : Nat → Nat → Bool
  mv : Nat → Nat → Bool

def lostOf (G : Game) (W : Nat → Nat → Bool) (q r : Nat) : Bool := G.tk q r || (List.range G.n).all fun x => !G.ball r x || W q x
def win (G : Game) : Nat → Nat → Nat → Bool
  | 0 => G.tk
  | t + 1 => fun p r => win G t p r || (List.range G.P).any fun q => G.mv p q && lostOf G (win G t) q r
def tmTo (G : Game) : Nat → Nat → Nat → Int
  | 0 => fun p r => if G.tk p r = true then 0 else -1
  | t + 1 => fun p r => if win G t p r = true then tmTo G t p r else if win G (t + 1) p r = true then ((t + 1 : Nat) : Int) else -1

variable {G : Game}
theorem lost_iff {W : Nat → Nat → Bool} {q r : Nat} : lostOf G W q r = true ↔ G.tk q r = true ∨ ∀ x, x < G.n → G.ball r x = true → W q x = true := by
  unfold lostOf
  rw [Bool.or_eq_true, List.all_eq_true]
  refine or_congr Iff.rfl ⟨fun h x hx hb => ?_, fun h x hx => ?_⟩
  · have := h x (List.mem_range.2 hx)
    rw [hb] at this
    simpa using this
  · cases hb : G.ball r x with
    | false => rfl
    | true => rw [h x (List.mem_range.1 hx) hb]; rfl
theorem win_succ {t p r : Nat} : win G (t + 1) p r = true ↔ win G t p r = true ∨ ∃ q, q < G.P ∧ G.mv p q = true ∧ lostOf G (win G t) q r = true := by
  show (_ || _) = true ↔ _
  rw [Bool.or_eq_true, List.any_eq_true]
  refine or_congr Iff.rfl ⟨?_, ?_⟩
  · rintro ⟨q, hq, h⟩
    rw [Bool.and_eq_true] at h
    exact ⟨q, List.mem_range.1 hq, h⟩
  · rintro ⟨q, hq, h⟩
    exact ⟨q, List.mem_range.2 hq, by rw [Bool.and_eq_true]; exact h⟩
theorem win_mono {t p r : Nat} (h : win G t p r = true) : win G (t + 1) p r = true := win_succ.2 (.inl h)
theorem win_add {t p r : Nat} (h : win G t p r = true) : ∀ j, win G (t + j) p r = true
  | 0 => h
  | j + 1 => win_mono (win_add h j)
theorem lost_mono {W V : Nat → Nat → Bool} {q r : Nat} (hW : ∀ x, x < G.n → W q x = true → V q x = true) (h : lostOf G W q r = true) : lostOf G V q r = true := by
  rw [lost_iff] at *
  exact h.imp id fun h x hx hb => hW x hx (h x hx hb)

theorem tm_neg : ∀ {t p r : Nat}, win G t p r = false → tmTo G t p r = -1
  | 0, p, r, h => by show (if G.tk p r = true then _ else _) = _; rw [if_neg (by rw [show G.tk p r = false from h]; simp)]
  | t + 1, p, r, h => by
    have h0 : win G t p r = false := by
      cases hw : win G t p r with
      | false => rfl
      | true => rw [win_mono hw] at h; cases h
    show (if _ then _ else if _ then _ else _) = _
    rw [if_neg (by rw [h0]; simp), if_neg (by rw [h]; simp)]
theorem tm_old {t p r : Nat} (h : win G t p r = true) : tmTo G (t + 1) p r = tmTo G t p r := by
  show (if _ then _ else _) = _; rw [if_pos h]
theorem tm_new {t p r : Nat} (h : win G t p r = false) (h1 : win G (t + 1) p r = true) : tmTo G (t + 1) p r = ((t + 1 : Nat) : Int) := by
  show (if _ then _ else if _ then _ else _) = _
  rw [if_neg (by rw [h]; simp), if_pos h1]
theorem tm_in : ∀ {t p r : Nat}, win G t p r = true → 0 ≤ tmTo G t p r ∧ tmTo G t p r ≤ t ∧ ∀ j : Nat, tmTo G t p r ≤ j → j ≤ t → win G j p r = true
  | 0, p, r, h => by
    have e : tmTo G 0 p r = 0 := by show (if G.tk p r = true then _ else _) = _; rw [if_pos (show G.tk p r = true from h)]
    rw [e]
    exact ⟨by omega, by omega, fun j _ hj => by rw [show j = 0 from by omega]; exact h⟩
  | t + 1, p, r, h => by
    cases hw : win G t p r with
    | true =>
      have ih := tm_in hw
      rw [tm_old hw]
      refine ⟨ih.1, by omega, fun j h1 h2 => ?_⟩
      by_cases e : j = t + 1
      · subst e; exact h
      · exact ih.2.2 j h1 (by omega)
    | false =>
      rw [tm_new hw h]
      exact ⟨by omega, by omega, fun j h1 h2 => by rw [show j = t + 1 from by omega]; exact h⟩
theorem tm_iff {t p r : Nat} : 0 ≤ tmTo G t p r ↔ win G t p r = true := by
  constructor
  · intro h
    cases hw : win G t p r with
    | true => rfl
    | false => rw [tm_neg hw] at h; omega
  · exact fun h => (tm_in h).1
theorem tm_lt {t p r : Nat} : tmTo G t p r < 0 ↔ win G t p r = false := by
  constructor
  · intro h
    cases hw : win G t p r with
    | false => rfl
    | true => have := (tm_in hw).1; omega
  · exact fun h => by rw [tm_neg h]; omega
theorem tm_small (t p r : Nat) : -1 ≤ tmTo G t p r ∧ tmTo G t p r ≤ t := by
  cases hw : win G t p r with
  | true => have := tm_in hw; exact ⟨by omega, this.2.1⟩
  | false => rw [tm_neg hw]; omega

def Stable (G : Game) (t : Nat) : Prop := ∀ p r, p < G.P → r < G.n → win G (t + 1) p r = true → win G t p r = true
theorem Stable.next {t : Nat} (h : Stable G t) : Stable G (t + 1) := fun p r hp hr hw => by
  rcases win_succ.1 hw with h1 | ⟨q, hq, hm, hl⟩
  · exact h1
  · exact win_succ.2 (.inr ⟨q, hq, hm, lost_mono (fun x hx => h q x hq hx) hl⟩)
theorem Stable.tm {t p r : Nat} (h : Stable G t) (hp : p < G.P) (hr : r < G.n) : tmTo G (t + 1) p r = tmTo G t p r := by
  cases hw : win G t p r with
  | true => exact tm_old hw
  | false =>
    rw [tm_neg hw]
    refine tm_neg ?_
    cases h1 : win G (t + 1) p r with
    | false => rfl
    | true => rw [h p r hp hr h1] at hw; cases hw
theorem Stable.add {t : Nat} (h : Stable G t) : ∀ j, Stable G (t + j)
  | 0 => h
  | j + 1 => (Stable.add h j).next
theorem Stable.tm_add {t p r : Nat} (h : Stable G t) (hp : p < G.P) (hr : r < G.n) : ∀ j, tmTo G (t + j) p r = tmTo G t p r
  | 0 => rfl
  | j + 1 => ((h.add j).tm hp hr).trans (Stable.tm_add h hp hr j)
/-- the times -/
noncomputable def tms (G : Game) : Nat → Nat → Int := tmTo G (Classical.epsilon (Stable G))
theorem tms_eq {t p r : Nat} (h : Stable G t) (hp : p < G.P) (hr : r < G.n) : tms G p r = tmTo G t p r := by
  have hs : Stable G (Classical.epsilon (Stable G)) := Classical.epsilon_spec ⟨t, h⟩
  unfold tms
  generalize Classical.epsilon (Stable G) = s at hs
  rcases Nat.le_total s t with hst | hst
  · obtain ⟨j, rfl⟩ : ∃ j, t = s + j := ⟨t - s, by omega⟩
    exact (hs.tm_add hp hr j).symm
  · obtain ⟨j, rfl⟩ : ∃ j, s = t + j := ⟨s - t, by omega⟩
    exact h.tm_add hp hr j

/-- how many situations are won -/
def sits (G : Game) : List (Nat × Nat) := (List.range G.P).flatMap fun p => (List.range G.n).map fun r => (p, r)
theorem sum_same (c : Nat) : ∀ P : Nat, ((List.range P).map fun _ => c).sum = P * c
  | 0 => by simp
  | P + 1 => by rw [List.range_succ, List.map_append, List.sum_append, sum_same c P, Nat.succ_mul]; simp
theorem sits_len (G : Game) : (sits G).length = G.P * G.n := by
  unfold sits
  rw [List.length_flatMap]
  simp only [List.length_map, List.length_range]
  exact sum_same _ _
theorem mem_sits {p r : Nat} : (p, r) ∈ sits G ↔ p < G.P ∧ r < G.n := by simp [sits]
def cnt (G : Game) (t : Nat) : Nat := (sits G).countP fun s => win G t s.1 s.2
theorem cnt_le (G : Game) (t : Nat) : cnt G t ≤ G.P * G.n := by rw [← sits_len]; exact List.countP_le_length
theorem countP_lt {α : Type} {p q : α → Bool} : ∀ {l : List α}, (∀ x ∈ l, p x = true → q x = true) → (∃ x ∈ l, q x = true ∧ p x = false) → l.countP p < l.countP q
  | [], _, ⟨x, hx, _⟩ => by simp at hx
  | a :: l, h, ⟨x, hx, hq, hp⟩ => by
    have hle : ∀ {l : List α}, (∀ x ∈ l, p x = true → q x = true) → l.countP p ≤ l.countP q := fun {l} h => by
      induction l with
      | nil => simp
      | cons a l ih =>
        have h1 := ih fun x hx => h x (List.mem_cons_of_mem _ hx)
        have h2 := h a List.mem_cons_self
        rw [List.countP_cons, List.countP_cons]
        cases hpa : p a with
        | false => simp; omega
        | true => rw [h2 hpa]; simp; omega
    have h1 := @hle l fun x hx => h x (List.mem_cons_of_mem _ hx)
    rw [List.countP_cons, List.countP_cons]
    rcases List.mem_cons.1 hx with rfl | hx
    · rw [hq, hp]; simp; omega
    · have h2 := countP_lt (fun x hx => h x (List.mem_cons_of_mem _ hx)) ⟨x, hx, hq, hp⟩
      have h3 := h a List.mem_cons_self
      cases hpa : p a with
      | false => simp; omega
      | true => rw [h3 hpa]; simp; omega
theorem cnt_grow {t : Nat} (h : ¬ Stable G t) : cnt G t < cnt G (t + 1) := by
  refine countP_lt (fun x _ hx => win_mono hx) ?_
  apply Classical.byContradiction
  intro hn
  refine h fun p r hp hr h1 => ?_
  cases hw : win G t p r with
  | true => rfl
  | false => exact absurd ⟨(p, r), mem_sits.2 ⟨hp, hr⟩, h1, hw⟩ hn

/-- what is left to a robber that moves as it should, by a table: -1 where it can leave it with that -/
def worst (G : Game) (T : Nat → Int) (r : Nat) : Int := (List.range G.n).foldl (fun m x => if G.ball r x = true then (if m < 0 ∨ T x < 0 then -1 else max m (T x)) else m) 0
end Go.Proofs.Ytpeobnmfndelhaa.times

/- What can be reached within a set of nodes, as the model looks for it: round by round. -/
namespace Go.Proofs.Ytpeobnmfndelhaa.reach
open Go.RowKit P2 words edges ints fns sets covs
set_option linter.unusedVariables false

/-- ways within q -/
inductive Rch (n : Nat) (J : Nat → Nat → Bool) (q : Nat → Bool) (x : Nat) : Nat → Prop
  | base : Rch n J q x x
  | step {a b : Nat} : Rch n J q x a → J a b = true → q b = true → b < n → Rch n J q x b
noncomputable def reachB (n : Nat) (J : Nat → Nat → Bool) (q : Nat → Bool) (x z : Nat) : Bool := @decide (Rch n J q x z) (Classical.propDecidable _)
theorem reachB_iff {n : Nat} {J : Nat → Nat → Bool} {q : Nat → Bool} {x z : Nat} : reachB n J q x z = true ↔ Rch n J q x z := by
  unfold reachB; exact @decide_eq_true_iff _ (Classical.propDecidable _)
theorem Rch.lt {n : Nat} {J : Nat → Nat → Bool} {q : Nat → Bool} {x z : Nat} (h : Rch n J q x z) (hx : x < n) : z < n := by
  cases h with
  | base => exact hx
  | step _ _ _ h => exact h
theorem Rch.inq {n : Nat} {J : Nat → Nat → Bool} {q : Nat → Bool} {x z : Nat} (h : Rch n J q x z) (hx : q x = true) : q z = true := by
  cases h with
  | base => exact hx
  | step _ _ h _ => exact h

theorem nw_congr {p p' : Nat → Bool} : ∀ {n : Nat}, (∀ z, z < n → p z = p' z) → nw p n = nw p' n
  | 0, _ => rfl
  | n + 1, h => by
    have ih := nw_congr (n := n) (fun z hz => h z (by omega))
    have h9 := h n (Nat.lt_succ_self n)
    cases hp : p n with
    | true => rw [nw_yes hp, nw_yes (h9.symm.trans hp), ih]
    | false => rw [nw_no hp, nw_no (h9.symm.trans hp), ih]
theorem nw_mono {p p' : Nat → Bool} : ∀ {n : Nat}, (∀ z, z < n → p z = true → p' z = true) → (nw p n).length ≤ (nw p' n).length
  | 0, _ => Nat.le_refl _
  | n + 1, h => by
    have ih := nw_mono (n := n) (fun z hz => h z (by omega))
    have h9 := h n (Nat.lt_succ_self n)
    cases hp : p n with
    | true => rw [nw_yes hp, nw_yes (h9 hp)]; simp; exact ih
    | false =>
      rw [nw_no hp]
      cases hq : p' n with
      | true => rw [nw_yes hq]; simp; omega
      | false => rw [nw_no hq]; exact ih
/-- a node more -/
def pput (p : Nat → Bool) (y z : Nat) : Bool := p z || decide (z = y)
theorem pput_len {p : Nat → Bool} {y : Nat} (hp : p y = false) : ∀ n, (nw (pput p y) n).length = (nw p n).length + (if y < n then 1 else 0)
  | 0 => rfl
  | n + 1 => by
    have ih := pput_len hp n
    by_cases e : n = y
    · subst e
      rw [nw_yes (p := pput p n) (by simp [pput]), nw_no hp, List.length_append, ih]
      simp
    · have h9 : pput p y n = p n := by simp [pput, e]
      cases hq : p n with
      | true =>
        rw [nw_yes (h9.trans hq), nw_yes hq, List.length_append, List.length_append, ih]
        simp only [List.length_singleton]
        split <;> split <;> omega
      | false =>
        rw [nw_no (h9.trans hq), nw_no hq, ih]
        split <;> split <;> omega
theorem pput_is {n : Nat} {p : Nat → Bool} {y : Nat} {L : List Int} (h : balls.PutI (nw p n) (y : Int) L) (hy : y < n) : L = nw (pput p y) n :=
  asc_ext h.1 (nw_asc _ _) fun e => by
    rw [h.2.1 e, mem_nw, mem_nw]
    constructor
    · rintro (rfl | ⟨j, hj, hp, rfl⟩)
      · exact ⟨y, hy, by simp [pput], rfl⟩
      · exact ⟨j, hj, by simp [pput, hp], rfl⟩
    · rintro ⟨j, hj, hp, rfl⟩
      rcases Bool.or_eq_true_iff.1 hp with h1 | h1
      · exact .inr ⟨j, hj, h1, rfl⟩
      · exact .inl (by have := of_decide_eq_true h1; omega)
theorem nw_at {p : Nat → Bool} {n k : Nat} {y : Int} (h : (nw p n)[k]? = some y) : ∃ z : Nat, y = (z : Int) ∧ z < n ∧ p z = true := by
  obtain ⟨z, h1, h2, rfl⟩ := mem_nw.1 (List.mem_of_getElem? h)
  exact ⟨z, rfl, h1, h2⟩
theorem at_nw {p : Nat → Bool} {n z : Nat} (h : p z = true) (hz : z < n) : ∃ k, k < (nw p n).length ∧ (nw p n)[k]? = some (z : Int) := by
  obtain ⟨k, hk⟩ := List.mem_iff_getElem?.1 (mem_nw.2 ⟨z, hz, h, rfl⟩ : (z : Int) ∈ nw p n)
  exact ⟨k, (List.getElem?_eq_some_iff.1 hk).1, hk⟩

section
variable (n : Nat) (J : Nat → Nat → Bool) (q : Nat → Bool) (x : Nat)
def Closed (p : Nat → Bool) : Prop := ∀ a b, a < n → b < n → p a = true → J a b = true → q b = true → p b = true
def Sound (p : Nat → Bool) : Prop := ∀ z, z < n → p z = true → Rch n J q x z
def Done (p : Nat → Bool) (y : Nat) : Prop := p y = true ∨ ∀ o, o < n → p o = true → J o y = false
/-- r rounds are done -/
def RoundO (r : Nat) (p : Nat → Bool) : Prop := p x = true ∧ Sound n J q x p ∧ (Closed n J q p ∨ r + 1 ≤ (nw p n).length)
/-- in a round, the nodes ahead of place i are done -/
def RoundI (r i : Nat) (p : Nat → Bool) : Prop :=
  p x = true ∧ Sound n J q x p ∧ (Closed n J q p ∨ r + 2 ≤ (nw p n).length ∨ (r + 1 ≤ (nw p n).length ∧ ∀ (j y : Nat), j < i → (nw q n)[j]? = some (y : Int) → Done n J p y))
end
section
variable {n : Nat} {J : Nat → Nat → Bool} {q : Nat → Bool} {x r i : Nat} {p : Nat → Bool}
theorem RoundO.first (hx : x < n) : RoundO n J q x 0 (fun z => decide (z = x)) := by
  refine ⟨by simp, fun z _ hz => by have := of_decide_eq_true hz; subst this; exact .base, .inr ?_⟩
  have := nw_mono (n := n) (p := fun z => pput (fun _ => false) x z) (p' := fun z => decide (z = x)) (fun z _ hz => by simpa [pput] using hz)
  have h2 := pput_len (p := fun _ => false) (y := x) rfl n
  rw [if_pos hx] at h2
  show 0 + 1 ≤ _
  have h3 : (nw (fun z => pput (fun _ => false) x z) n).length = (nw (fun _ => false) n).length + 1 := h2
  omega
theorem RoundO.start (h : RoundO n J q x r p) : RoundI n J q x r 0 p :=
  ⟨h.1, h.2.1, h.2.2.elim .inl (fun h => .inr (.inr ⟨h, fun j y hj => by omega⟩))⟩
theorem RoundI.done (h : RoundI n J q x r (nw q n).length p) : RoundO n J q x (r + 1) p := by
  refine ⟨h.1, h.2.1, ?_⟩
  rcases h.2.2 with h1 | h1 | ⟨_, h1⟩
  · exact .inl h1
  · exact .inr h1
  · refine .inl fun a b ha hb hpa hJ hq => ?_
    obtain ⟨k, hk, hkb⟩ := at_nw hq hb
    rcases h1 k b hk hkb with h2 | h2
    · exact h2
    · rw [h2 a ha hpa] at hJ; cases hJ
theorem RoundI.skip {y : Nat} (h : RoundI n J q x r i p) (hy : (nw q n)[i]? = some (y : Int)) (hd : Done n J p y) : RoundI n J q x r (i + 1) p := by
  refine ⟨h.1, h.2.1, ?_⟩
  rcases h.2.2 with h1 | h1 | ⟨h0, h1⟩
  · exact .inl h1
  · exact .inr (.inl h1)
  · refine .inr (.inr ⟨h0, fun j z hj hz => ?_⟩)
    by_cases e : j = i
    · subst e; rw [hy] at hz
      have h9 : (y : Int) = (z : Int) := by simpa using hz
      obtain rfl : y = z := by omega
      exact hd
    · exact h1 j z (by omega) hz
theorem RoundI.put {y o : Nat} (h : RoundI n J q x r i p) (hy : y < n) (hq : q y = true) (hp : p y = false) (ho : o < n) (hpo : p o = true) (hJ : J o y = true) : RoundI n J q x r i (pput p y) := by
  have hlen := pput_len hp n
  rw [if_pos hy] at hlen
  refine ⟨by simp [pput, h.1], fun z hz hpz => ?_, ?_⟩
  · rcases Bool.or_eq_true_iff.1 hpz with h1 | h1
    · exact h.2.1 z hz h1
    · have := of_decide_eq_true h1
      subst this
      exact .step (h.2.1 o ho hpo) hJ hq hy
  · rcases h.2.2 with h1 | h1 | ⟨h0, _⟩
    · have := h1 o y ho hy hpo hJ hq
      rw [hp] at this; cases this
    · exact .inr (.inl (by omega))
    · exact .inr (.inl (by omega))
theorem RoundO.all (h : RoundO n J q x (nw q n).length p) (hx : x < n) (hq : q x = true) : nw p n = nw (reachB n J q x) n := by
  have hcl : Closed n J q p := by
    rcases h.2.2 with h1 | h1
    · exact h1
    · have := nw_mono (n := n) (p := p) (p' := q) (fun z hz hpz => (h.2.1 z hz hpz).inq hq)
      omega
  have hin : ∀ z, Rch n J q x z → p z = true := by
    intro z hz
    induction hz with
    | base => exact h.1
    | step ha hJ hqb hb ih => exact hcl _ _ (ha.lt hx) hb ih hJ hqb
  refine nw_congr fun z hz => ?_
  cases hp : p z with
  | true => exact (reachB_iff.2 (h.2.1 z hz hp)).symm
  | false =>
    cases hr : reachB n J q x z with
    | false => rfl
    | true => rw [hin z (reachB_iff.1 hr)] at hp; cases hp
end
end Go.Proofs.Ytpeobnmfndelhaa.reach

/- What is connected within a set, and the neighbors in a filling: plain mathematics. -/
namespace Go.Proofs.Ytpeobnmfndelhaa.bags
open Go.RowKit P2 words edges ints fns sets covs reach
set_option linter.unusedVariables false

def J2 (l : List Ed) (a b : Nat) : Bool := adj l a b
/-- the nodes that ways in q connect with some of P -/
noncomputable def connB (n : Nat) (J : Nat → Nat → Bool) (q P : Nat → Bool) (z : Nat) : Bool := @decide (∃ x, x < n ∧ P x = true ∧ Rch n J q x z) (Classical.propDecidable _)
theorem connB_iff {n : Nat} {J : Nat → Nat → Bool} {q P : Nat → Bool} {z : Nat} : connB n J q P z = true ↔ ∃ x, x < n ∧ P x = true ∧ Rch n J q x z := by
  unfold connB; exact @decide_eq_true_iff _ (Classical.propDecidable _)
theorem connB_one {n : Nat} {J : Nat → Nat → Bool} {q : Nat → Bool} {x z : Nat} (hx : x < n) : connB n J q (fun y => decide (y = x)) z = reachB n J q x z := by
  rw [Bool.eq_iff_iff, connB_iff, reachB_iff]
  constructor
  · rintro ⟨y, hy, hp, hr⟩
    have := of_decide_eq_true hp
    subst this
    exact hr
  · intro h
    exact ⟨x, hx, by simp, h⟩
theorem Rch.mono {n : Nat} {J : Nat → Nat → Bool} {q q' : Nat → Bool} {x z : Nat} (h : Rch n J q x z) (hq : ∀ y, y < n → q y = true → q' y = true) : Rch n J q' x z := by
  induction h with
  | base => exact .base
  | step _ hJ hqb hb ih => exact .step ih hJ (hq _ hb hqb) hb
theorem Rch.trans {n : Nat} {J : Nat → Nat → Bool} {q : Nat → Bool} {x y z : Nat} (h : Rch n J q x y) (k : Rch n J q y z) : Rch n J q x z := by
  induction k with
  | base => exact h
  | step _ hJ hqb hb ih => exact .step ih hJ hqb hb
theorem Rch.ahead {n : Nat} {J : Nat → Nat → Bool} {q : Nat → Bool} {x y z : Nat} (hJ : J x y = true) (hy : y < n) (hq : q y = true) (k : Rch n J q y z) : Rch n J q x z :=
  Rch.trans (.step .base hJ hq hy) k
theorem Rch.symm {n : Nat} {J : Nat → Nat → Bool} {q : Nat → Bool} {x z : Nat} (hs : ∀ a b, J a b = J b a) (hx : x < n) (hqx : q x = true) (h : Rch n J q x z) : Rch n J q z x := by
  induction h with
  | base => exact .base
  | step ha hJ hqb hb ih => exact Rch.ahead ((hs _ _).trans hJ) (ha.lt hx) (ha.inq hqx) ih
/-- the closed neighborhood of a set -/
def arB (l : List Ed) (n : Nat) (c y : Nat) : Bool := (List.range n).any fun x => c.testBit x && ((x == y) || adj l x y)
theorem arB_iff {l : List Ed} {n c y : Nat} : arB l n c y = true ↔ ∃ x, x < n ∧ c.testBit x = true ∧ (x = y ∨ adj l x y = true) := by
  unfold arB
  rw [List.any_eq_true]
  simp only [List.mem_range, Bool.and_eq_true, Bool.or_eq_true, beq_iff_eq]
def arN (l : List Ed) (n c : Nat) : Nat := numOf (arB l n c) n
def arK (l : List Ed) (c : Nat) : Nat → Nat
  | 0 => 0
  | k + 1 => if c.testBit k = true then arK l c k ||| cloB l k else arK l c k
theorem arK_yes {l : List Ed} {c k : Nat} (h : c.testBit k = true) : arK l c (k + 1) = arK l c k ||| cloB l k := by rw [arK, if_pos h]
theorem arK_no {l : List Ed} {c k : Nat} (h : c.testBit k = false) : arK l c (k + 1) = arK l c k := by rw [arK, if_neg (by simp [h])]
theorem arK_bit {s : Int} {l : List Ed} (hg : P2.Good s l) (c y : Nat) : ∀ k, (arK l c k).testBit y = arB l k c y
  | 0 => by simp [arK, arB]
  | k + 1 => by
    have ih := arK_bit hg c y k
    have h2 : arB l (k + 1) c y = (arB l k c y || (c.testBit k && ((k == y) || adj l k y))) := by
      unfold arB; rw [List.range_succ, List.any_append]; simp
    rw [h2]
    cases hb : c.testBit k with
    | true => rw [arK_yes hb, Nat.testBit_or, ih, cloB_bit hg]; simp
    | false => rw [arK_no hb, ih]; simp
theorem arK_lt {s : Int} {l : List Ed} (hg : P2.Good s l) (c : Nat) {k : Nat} (hk : k ≤ 8) : arK l c k < 256 := by
  have := hg.2.1
  refine Nat.lt_pow_two_of_testBit (n := 8) _ fun i hi => ?_
  rw [arK_bit hg]
  cases h : arB l k c i with
  | false => rfl
  | true =>
    obtain ⟨x, hx, _, rfl | ha⟩ := arB_iff.1 h
    · omega
    · have := (adj_node hg ha).2; omega
theorem arK_all {n : Nat} {l : List Ed} (hg : P2.Good (n : Int) l) (c : Nat) : arK l c n = arN l n c := by
  apply Nat.eq_of_testBit_eq
  intro i
  unfold arN
  rw [arK_bit hg, numOf_bit]
  cases h : arB l n c i with
  | false => simp
  | true =>
    obtain ⟨x, hx, _, rfl | ha⟩ := arB_iff.1 h
    · simp [hx]
    · have := (adj_node hg ha).2
      have h9 : i < n := by omega
      simp [h9]
theorem num_ext {p p' : Nat → Bool} {n : Nat} (h : ∀ z, z < n → p z = p' z) : numOf p n = numOf p' n := by
  apply Nat.eq_of_testBit_eq
  intro i
  rw [numOf_bit, numOf_bit]
  by_cases hi : i < n
  · rw [h i hi]
  · simp [hi]
theorem num_inj {p p' : Nat → Bool} {n : Nat} (h : numOf p n = numOf p' n) : ∀ z, z < n → p z = p' z := fun z hz => by
  have h1 := numOf_bit p n z
  have h2 := numOf_bit p' n z
  rw [h, h2] at h1
  simpa [hz] using h1.symm
theorem num_and (p q : Nat → Bool) (n : Nat) : numOf p n &&& numOf q n = numOf (fun z => p z && q z) n := by
  apply Nat.eq_of_testBit_eq
  intro i
  rw [Nat.testBit_and, numOf_bit, numOf_bit, numOf_bit]
  by_cases hi : i < n <;> simp [hi]
/-- a round of the search -/
def mored (l : List Ed) (n : Nat) (q p : Nat → Bool) (y : Nat) : Bool := arB l n (numOf p n) y && q y
theorem mored_iff {l : List Ed} {n : Nat} {q p : Nat → Bool} {y : Nat} : mored l n q p y = true ↔ (∃ x, x < n ∧ p x = true ∧ (x = y ∨ adj l x y = true)) ∧ q y = true := by
  unfold mored
  rw [Bool.and_eq_true, arB_iff]
  constructor
  · rintro ⟨⟨x, hx, hp, h⟩, hq⟩
    rw [numOf_bit] at hp
    exact ⟨⟨x, hx, by simpa [hx] using hp, h⟩, hq⟩
  · rintro ⟨⟨x, hx, hp, h⟩, hq⟩
    exact ⟨⟨x, hx, by rw [numOf_bit]; simp [hx, hp], h⟩, hq⟩
/-- the search so far: p has the nodes found -/
def Conn (n : Nat) (l : List Ed) (q P p : Nat → Bool) : Prop := (∀ z, z < n → P z = true → p z = true) ∧ (∀ z, z < n → p z = true → connB n (J2 l) q P z = true) ∧ ∀ z, z < n → p z = true → q z = true
section
variable {n : Nat} {l : List Ed} {q P p : Nat → Bool}
theorem Conn.first (hP : ∀ z, z < n → P z = true → q z = true) : Conn n l q P P :=
  ⟨fun _ _ h => h, fun z hz h => connB_iff.2 ⟨z, hz, h, .base⟩, hP⟩
theorem Conn.sub (h : Conn n l q P p) : ∀ z, z < n → p z = true → mored l n q p z = true := fun z hz hp => mored_iff.2 ⟨⟨z, hz, hp, .inl rfl⟩, h.2.2 z hz hp⟩
theorem Conn.next (h : Conn n l q P p) : Conn n l q P (mored l n q p) := by
  refine ⟨fun z hz hp => h.sub z hz (h.1 z hz hp), fun z hz hm => ?_, fun z hz hm => (mored_iff.1 hm).2⟩
  obtain ⟨⟨x, hx, hp, he⟩, hq⟩ := mored_iff.1 hm
  obtain ⟨a, ha, hPa, hr⟩ := connB_iff.1 (h.2.1 x hx hp)
  rcases he with rfl | he
  · exact connB_iff.2 ⟨a, ha, hPa, hr⟩
  · exact connB_iff.2 ⟨a, ha, hPa, .step hr he hq hz⟩
theorem Conn.done (h : Conn n l q P p) (he : numOf (mored l n q p) n = numOf p n) : numOf p n = numOf (connB n (J2 l) q P) n := by
  have hi := num_inj he
  have hin : ∀ a z, a < n → P a = true → Rch n (J2 l) q a z → p z = true := by
    intro a z ha hPa hr
    induction hr with
    | base => exact h.1 a ha hPa
    | step hr hJ hqb hb ih => rw [← hi _ hb]; exact mored_iff.2 ⟨⟨_, hr.lt ha, ih, .inr hJ⟩, hqb⟩
  refine num_ext fun z hz => ?_
  rw [Bool.eq_iff_iff]
  constructor
  · exact h.2.1 z hz
  · intro hc
    obtain ⟨a, ha, hPa, hr⟩ := connB_iff.1 hc
    exact hin a z ha hPa hr
theorem Conn.grow (h : Conn n l q P p) (hne : numOf (mored l n q p) n ≠ numOf p n) : (nw p n).length < (nw (mored l n q p) n).length := by
  obtain ⟨z, hz, hm, hp⟩ : ∃ z, z < n ∧ mored l n q p z = true ∧ p z = false := by
    apply Classical.byContradiction
    intro hno
    refine hne (num_ext fun z hz => ?_)
    rw [Bool.eq_iff_iff]
    constructor
    · intro hm
      cases hp : p z with
      | true => rfl
      | false => exact absurd ⟨z, hz, hm, hp⟩ hno
    · exact h.sub z hz
  have h1 := pput_len hp n
  rw [if_pos hz] at h1
  have h2 := nw_mono (n := n) (p := pput p z) (p' := mored l n q p) (fun y hy hpy => by
    rcases Bool.or_eq_true_iff.1 hpy with h9 | h9
    · exact h.sub y hy h9
    · have := of_decide_eq_true h9
      subst this
      exact hm)
  omega
end

/-- the neighbors behind a node in a filling: G has the nodes gone ahead of it -/
noncomputable def laterB (n : Nat) (l : List Ed) (G : Nat → Bool) (x y : Nat) : Bool :=
  !G y && decide (y ≠ x) && (List.range n).any fun z => reachB n (J2 l) (pput G x) x z && adj l z y
theorem laterB_iff {n : Nat} {l : List Ed} {G : Nat → Bool} {x y : Nat} : laterB n l G x y = true ↔ G y = false ∧ y ≠ x ∧ ∃ z, z < n ∧ Rch n (J2 l) (pput G x) x z ∧ adj l z y = true := by
  unfold laterB
  rw [Bool.and_eq_true, Bool.and_eq_true, List.any_eq_true, decide_eq_true_iff]
  simp only [List.mem_range, Bool.and_eq_true, reachB_iff, Bool.not_eq_true']
  exact and_assoc
noncomputable def bagB (n : Nat) (l : List Ed) (G : Nat → Bool) (x : Nat) : Nat → Bool := pput (laterB n l G x) x
theorem bag_len {n : Nat} {l : List Ed} {G : Nat → Bool} {x : Nat} (hx : x < n) : (nw (bagB n l G x) n).length = (nw (laterB n l G x) n).length + 1 := by
  have h := pput_len (p := laterB n l G x) (y := x) (by
    cases h : laterB n l G x x with
    | false => rfl
    | true => exact absurd rfl (laterB_iff.1 h).2.1) n
  rw [if_pos hx] at h
  exact h
/-- as the program has it -/
theorem bag_is {n : Nat} {l : List Ed} {G : Nat → Bool} {x : Nat} (hx : x < n) (hgx : G x = false) {y : Nat} (hy : y < n) :
    (arB l n (numOf (connB n (J2 l) (pput G x) (fun y => decide (y = x))) n) y && !G y) = bagB n l G x y := by
  have hpp : bagB n l G x y = (laterB n l G x y || decide (y = x)) := rfl
  rw [Bool.eq_iff_iff, Bool.and_eq_true, arB_iff, hpp]
  rw [Bool.or_eq_true, laterB_iff, decide_eq_true_iff]
  constructor
  · rintro ⟨⟨z, hz, hb, he⟩, hG⟩
    rw [numOf_bit, connB_one hx] at hb
    have hr : Rch n (J2 l) (pput G x) x z := by
      rw [Bool.and_eq_true] at hb
      exact reachB_iff.1 hb.2
    by_cases e : y = x
    · exact .inr e
    · refine .inl ⟨by simpa using hG, e, ?_⟩
      rcases he with rfl | he
      · have := hr.inq (by simp [pput])
        rcases Bool.or_eq_true_iff.1 this with h1 | h1
        · rw [h1] at hG; simp at hG
        · exact absurd (of_decide_eq_true h1) e
      · exact ⟨z, hz, hr, he⟩
  · rintro (⟨hG, hne, z, hz, hr, ha⟩ | rfl)
    · refine ⟨⟨z, hz, ?_, .inr ha⟩, by simp [hG]⟩
      rw [numOf_bit, connB_one hx, reachB_iff.2 hr]; simp [hz]
    · refine ⟨⟨y, hx, ?_, .inl rfl⟩, by simp [hgx]⟩
      rw [numOf_bit, connB_one hx, reachB_iff.2 .base]; simp [hx]

/-- the model's search: S has the nodes seen, o those that are out; k of those seen are done, and i neighbors of the next one -/
structure Later (n : Nat) (l : List Ed) (G : Nat → Bool) (x k i : Nat) (S : List Nat) (o : Nat → Bool) : Prop where
  first : S[0]? = some x
  nodup : S.Nodup
  seen : ∀ z ∈ S, z < n ∧ Rch n (J2 l) (pput G x) x z
  done : ∀ j z y : Nat, j < k → S[j]? = some z → y < n → adj l z y = true → y ∈ S ∨ o y = true
  now : ∀ z y j : Nat, S[k]? = some z → j < i → (nw (fun y => adj l z y) n)[j]? = some (y : Int) → y ∈ S ∨ o y = true
  sound : ∀ y, o y = true → y < n ∧ G y = false ∧ y ≠ x ∧ ∃ z ∈ S, adj l z y = true
section
variable {n : Nat} {l : List Ed} {G : Nat → Bool} {x k i : Nat} {S : List Nat} {o : Nat → Bool}
theorem nodup_len : ∀ {S : List Nat}, S.Nodup → (∀ z ∈ S, z < n) → S.length ≤ n := fun {S} h hz => by
  have := h.length_le_of_subset (l₂ := List.range n) (fun z hm => List.mem_range.2 (hz z hm))
  simpa using this
theorem Later.len (h : Later n l G x k i S o) : S.length ≤ n := nodup_len h.nodup fun z hz => (h.seen z hz).1
theorem Later.start (hx : x < n) : Later n l G x 0 0 [x] (fun _ => false) where
  first := rfl
  nodup := by simp
  seen := fun z hz => by rw [List.mem_singleton] at hz; subst hz; exact ⟨hx, .base⟩
  done := fun j _ _ hj => by omega
  now := fun _ _ j _ hj => by omega
  sound := fun _ h => by cases h
theorem Later.seen_old {y : Nat} (h : Later n l G x k i S o) (hy : y ∈ S) : y = x ∨ G y = true := by
  have := (h.seen y hy).2.inq (by simp [pput])
  rcases Bool.or_eq_true_iff.1 this with h1 | h1
  · exact .inr h1
  · exact .inl (of_decide_eq_true h1)
/-- one that was seen -/
theorem Later.skip {z y : Nat} (h : Later n l G x k i S o) (hz : S[k]? = some z) (hy : (nw (fun y => adj l z y) n)[i]? = some (y : Int)) (hm : y ∈ S) : Later n l G x k (i + 1) S o :=
  { h with
    now := fun z' y' j hz' hj hy' => by
      by_cases e : j = i
      · subst e
        rw [hz] at hz'; cases hz'
        rw [hy] at hy'
        have : (y : Int) = (y' : Int) := by simpa using hy'
        obtain rfl : y = y' := by omega
        exact .inl hm
      · exact h.now z' y' j hz' (by omega) hy' }
theorem Later.next {z : Nat} (h : Later n l G x k i S o) (hz : S[k]? = some z) (hi : (nw (fun y => adj l z y) n).length ≤ i) : Later n l G x (k + 1) 0 S o :=
  { h with
    done := fun j z' y hj hz' hy ha => by
      by_cases e : j = k
      · subst e
        rw [hz] at hz'; cases hz'
        obtain ⟨m, hm, hmy⟩ := at_nw (p := fun y => adj l z y) ha hy
        exact h.now z y m hz (by omega) hmy
      · exact h.done j z' y (by omega) hz' hy ha
    now := fun _ _ j _ hj => by omega }
theorem Later.see {z y : Nat} (h : Later n l G x k i S o) (hz : S[k]? = some z) (hy : (nw (fun y => adj l z y) n)[i]? = some (y : Int)) (hm : y ∉ S) (hG : G y = true) : Later n l G x k (i + 1) (S ++ [y]) o := by
  obtain ⟨y', e', hyn, ha⟩ := nw_at hy
  obtain rfl : y = y' := by omega
  have hzS := List.mem_of_getElem? hz
  have hk := (List.getElem?_eq_some_iff.1 hz).1
  have old : ∀ j v, j ≤ k → (S ++ [y])[j]? = some v → S[j]? = some v := fun j v hj hv => by rwa [List.getElem?_append_left (by omega)] at hv
  exact {
    first := by rw [List.getElem?_append_left (by omega)]; exact h.first
    nodup := by
      rw [List.nodup_append]
      exact ⟨h.nodup, by simp, fun a ha b hb e => by rw [List.mem_singleton] at hb; rw [e, hb] at ha; exact hm ha⟩
    seen := fun v hv => by
      rcases List.mem_append.1 hv with hv | hv
      · exact h.seen v hv
      · rw [List.mem_singleton] at hv
        subst hv
        exact ⟨hyn, .step (h.seen z hzS).2 ha (by simp [pput, hG]) hyn⟩
    done := fun j v u hj hv hu hvu => by
      rcases h.done j v u hj (old j v (by omega) hv) hu hvu with h1 | h1
      · exact .inl (by simp [h1])
      · exact .inr h1
    now := fun v u j hv hj hu => by
      have hv' := old k v (Nat.le_refl _) hv
      by_cases e : j = i
      · subst e
        rw [hz] at hv'; cases hv'
        rw [hy] at hu
        have : (y : Int) = (u : Int) := by simpa using hu
        obtain rfl : y = u := by omega
        exact .inl (by simp)
      · rcases h.now v u j hv' (by omega) hu with h1 | h1
        · exact .inl (by simp [h1])
        · exact .inr h1
    sound := fun u hu => by
      obtain ⟨h1, h2, h3, v, hv, h4⟩ := h.sound u hu
      exact ⟨h1, h2, h3, v, by simp [hv], h4⟩ }
theorem Later.put {z y : Nat} (h : Later n l G x k i S o) (hz : S[k]? = some z) (hy : (nw (fun y => adj l z y) n)[i]? = some (y : Int)) (hm : y ∉ S) (hG : G y = false) : Later n l G x k (i + 1) S (pput o y) := by
  obtain ⟨y', e', hyn, ha⟩ := nw_at hy
  obtain rfl : y = y' := by omega
  have hzS := List.mem_of_getElem? hz
  have hxS : x ∈ S := List.mem_of_getElem? h.first
  exact { h with
    done := fun j v u hj hv hu hvu => by
      rcases h.done j v u hj hv hu hvu with h1 | h1
      · exact .inl h1
      · exact .inr (by simp [pput, h1])
    now := fun v u j hv hj hu => by
      by_cases e : j = i
      · subst e
        rw [hz] at hv; cases hv
        rw [hy] at hu
        have : (y : Int) = (u : Int) := by simpa using hu
        obtain rfl : y = u := by omega
        exact .inr (by simp [pput])
      · rcases h.now v u j hv (by omega) hu with h1 | h1
        · exact .inl h1
        · exact .inr (by simp [pput, h1])
    sound := fun u hu => by
      rcases Bool.or_eq_true_iff.1 hu with h1 | h1
      · exact h.sound u h1
      · have := of_decide_eq_true h1
        subst this
        exact ⟨hyn, hG, fun e => hm (e ▸ hxS), z, hzS, ha⟩ }
theorem Later.all (h : Later n l G x S.length i S o) (hx : x < n) : nw o n = nw (laterB n l G x) n := by
  have hcl : ∀ z, Rch n (J2 l) (pput G x) x z → z ∈ S := by
    intro z hr
    induction hr with
    | base => exact List.mem_of_getElem? h.first
    | step ha hJ hqb hb ih =>
      obtain ⟨j, hj⟩ := List.getElem?_of_mem ih
      rcases h.done j _ _ (List.getElem?_eq_some_iff.1 hj).1 hj hb hJ with h1 | h1
      · exact h1
      · obtain ⟨_, h2, h3, _⟩ := h.sound _ h1
        rcases Bool.or_eq_true_iff.1 hqb with h4 | h4
        · rw [h2] at h4; cases h4
        · exact absurd (of_decide_eq_true h4) h3
  refine reach.nw_congr fun y hy => ?_
  rw [Bool.eq_iff_iff, laterB_iff]
  constructor
  · intro ho
    obtain ⟨_, h2, h3, z, hz, h4⟩ := h.sound y ho
    exact ⟨h2, h3, z, (h.seen z hz).1, (h.seen z hz).2, h4⟩
  · rintro ⟨h2, h3, z, hz, hr, ha⟩
    obtain ⟨j, hj⟩ := List.getElem?_of_mem (hcl z hr)
    rcases h.done j z y (List.getElem?_eq_some_iff.1 hj).1 hj hy ha with h1 | h1
    · rcases h.seen_old h1 with h5 | h5
      · exact absurd h5 h3
      · rw [h2] at h5; cases h5
    · exact h1
end
end Go.Proofs.Ytpeobnmfndelhaa.bags

/- The program's search for the times of a game: plain mathematics. -/
namespace Go.Proofs.Ytpeobnmfndelhaa.times
open Go.RowKit P2 words fns sets covs bags
set_option linter.unusedVariables false

def prevW (G : Game) : Nat → Nat → Nat → Bool
  | 0 => fun _ _ => false
  | t + 1 => win G t
def headT (G : Game) : Nat → Nat → Nat → Int
  | 0 => fun _ _ => -1
  | t + 1 => tmTo G t
/-- a row and a table of a function -/
def rowG (n : Nat) (f : Nat → Int) : List Int := (List.range n).map f
def gridG (P n : Nat) (T : Nat → Nat → Int) : List (List Int) := (List.range P).map fun p => rowG n (T p)
theorem rowG_len (n : Nat) (f : Nat → Int) : (rowG n f).length = n := by simp [rowG]
theorem rowG_at {n k : Nat} {f : Nat → Int} (h : k < n) : (rowG n f)[k]? = some (f k) := by simp [rowG, h]
theorem rowG_congr {n : Nat} {f g : Nat → Int} (h : ∀ x, x < n → f x = g x) : rowG n f = rowG n g := List.map_congr_left fun x hx => h x (List.mem_range.1 hx)
theorem gridG_len (P n : Nat) (T : Nat → Nat → Int) : (gridG P n T).length = P := by simp [gridG]
theorem gridG_at {P n k : Nat} {T : Nat → Nat → Int} (h : k < P) : (gridG P n T)[k]? = some (rowG n (T k)) := by simp [gridG, h]
theorem gridG_congr {P n : Nat} {T U : Nat → Nat → Int} (h : ∀ p r, p < P → r < n → T p r = U p r) : gridG P n T = gridG P n U := List.map_congr_left fun p hp => rowG_congr fun r hr => h p r (List.mem_range.1 hp) hr
theorem rowG_set {n x : Nat} {f : Nat → Int} (hx : x < n) (v : Int) : (rowG n f).set x v = rowG n fun y => if y = x then v else f y := by
  apply List.ext_getElem?
  intro i
  rw [List.getElem?_set, rowG_len]
  by_cases e : x = i
  · subst e
    rw [if_pos rfl, if_pos hx, rowG_at hx, if_pos rfl]
  · rw [if_neg e]
    by_cases hi : i < n
    · rw [rowG_at hi, rowG_at hi, if_neg (fun h => e h.symm)]
    · rw [List.getElem?_eq_none (by rw [rowG_len]; omega), List.getElem?_eq_none (by rw [rowG_len]; omega)]
theorem gridG_set {P n k : Nat} {T : Nat → Nat → Int} (hk : k < P) (f : Nat → Int) : (gridG P n T).set k (rowG n f) = gridG P n fun p => if p = k then f else T p := by
  apply List.ext_getElem?
  intro i
  rw [List.getElem?_set, gridG_len]
  by_cases e : k = i
  · subst e
    rw [if_pos rfl, if_pos hk, gridG_at hk, if_pos rfl]
  · rw [if_neg e]
    by_cases hi : i < P
    · rw [gridG_at hi, gridG_at hi, if_neg (fun h => e h.symm)]
    · rw [List.getElem?_eq_none (by rw [gridG_len]; omega), List.getElem?_eq_none (by rw [gridG_len]; omega)]
/-- the sets of a table of tests, as numbers -/
def codesL (P n : Nat) (W : Nat → Nat → Bool) : List Nat := (List.range P).map fun p => numOf (W p) n
theorem codesL_len (P n : Nat) (W : Nat → Nat → Bool) : (codesL P n W).length = P := by simp [codesL]
theorem codesL_at {P n k : Nat} {W : Nat → Nat → Bool} (h : k < P) : (codesL P n W)[k]? = some (numOf (W k) n) := by simp [codesL, h]
theorem codesL_congr {P n : Nat} {W V : Nat → Nat → Bool} (h : ∀ p r, p < P → r < n → W p r = V p r) : codesL P n W = codesL P n V := List.map_congr_left fun p hp => num_ext fun r hr => h p r (List.mem_range.1 hp) hr
theorem codesL_inj {P n : Nat} {W V : Nat → Nat → Bool} (h : codesL P n W = codesL P n V) : ∀ p r, p < P → r < n → W p r = V p r := fun p r hp hr => by
  have h1 := codesL_at (n := n) (W := W) hp
  rw [h, codesL_at hp] at h1
  have h2 : numOf (V p) n = numOf (W p) n := by simpa using h1
  exact (num_inj h2 r hr).symm
theorem codesL_set {P n k : Nat} {W : Nat → Nat → Bool} (hk : k < P) (q : Nat → Bool) : (codesL P n W).set k (numOf q n) = codesL P n fun p => if p = k then q else W p := by
  apply List.ext_getElem?
  intro i
  rw [List.getElem?_set, codesL_len]
  by_cases e : k = i
  · subst e
    rw [if_pos rfl, if_pos hk, codesL_at hk, if_pos rfl]
  · rw [if_neg e]
    by_cases hi : i < P
    · rw [codesL_at hi, codesL_at hi, if_neg (fun h => e h.symm)]
    · rw [List.getElem?_eq_none (by rw [codesL_len]; omega), List.getElem?_eq_none (by rw [codesL_len]; omega)]

section
variable {G : Game}
/-- what is new in a round -/
def fresh (G : Game) (t p r : Nat) : Bool := win G t p r && !prevW G t p r
theorem prev_win {t p r : Nat} (h : prevW G t p r = true) : win G t p r = true := by
  cases t with
  | zero => cases h
  | succ t => exact win_mono h
theorem mark_is (t p r : Nat) : (if fresh G t p r = true then (t : Int) else headT G t p r) = tmTo G t p r := by
  unfold fresh
  cases hw : win G t p r with
  | false =>
    have hp : prevW G t p r = false := by
      cases hh : prevW G t p r with
      | false => rfl
      | true => rw [prev_win hh] at hw; cases hw
    rw [hp, Bool.false_and, if_neg (by simp), tm_neg hw]
    cases t with
    | zero => rfl
    | succ t => exact tm_neg hp
  | true =>
    cases t with
    | zero =>
      rw [show prevW G 0 p r = false from rfl]
      simp only [Bool.not_false, Bool.and_true, if_true]
      show (0 : Int) = if G.tk p r = true then 0 else -1
      rw [if_pos (show G.tk p r = true from hw)]
    | succ t =>
      show (if (true && !win G t p r) = true then _ else tmTo G t p r) = _
      cases hp : win G t p r with
      | false => simp only [Bool.not_false, Bool.and_true, if_true]; exact (tm_new hp hw).symm
      | true => simp only [Bool.not_true, Bool.and_false, Bool.false_eq_true, if_false]; exact (tm_old hp).symm
/-- the end: nothing is new -/
theorem stop_is {t : Nat} (hb : ∀ r, r < G.n → G.ball r r = true) (h : ∀ p r, p < G.P → r < G.n → win G t p r = prevW G t p r) : Stable G t ∧ ∀ p r, p < G.P → r < G.n → headT G t p r = tms G p r := by
  cases t with
  | zero =>
    have h0 : ∀ p r, p < G.P → r < G.n → win G 0 p r = false := h
    have hs : Stable G 0 := fun p r hp hr hw => by
      rcases win_succ.1 hw with h1 | ⟨q, hq, hm, hl⟩
      · exact h1
      · rcases lost_iff.1 hl with h2 | h2
        · have := h0 q r hq hr
          rw [show win G 0 q r = G.tk q r from rfl, h2] at this
          cases this
        · have := h2 r hr (hb r hr)
          rw [h0 q r hq hr] at this; cases this
    exact ⟨hs, fun p r hp hr => by rw [tms_eq hs hp hr]; exact (tm_neg (h0 p r hp hr)).symm⟩
  | succ t =>
    have hs : Stable G t := fun p r hp hr hw => by
      have := h p r hp hr
      rw [hw] at this
      exact this.symm
    exact ⟨hs.next, fun p r hp hr => (tms_eq hs hp hr).symm⟩
/-- how many situations were won before -/
def cntP (G : Game) : Nat → Nat
  | 0 => 0
  | t + 1 => cnt G t
theorem cntP_le (G : Game) (t : Nat) : cntP G t ≤ G.P * G.n := by
  cases t with
  | zero => exact Nat.zero_le _
  | succ t => exact cnt_le G t
theorem cntP_grow {t : Nat} (h : ¬ ∀ p r, p < G.P → r < G.n → win G t p r = prevW G t p r) : cntP G t < cntP G (t + 1) := by
  cases t with
  | zero =>
    obtain ⟨p, r, hp, hr, hw⟩ : ∃ p r, p < G.P ∧ r < G.n ∧ win G 0 p r = true := by
      apply Classical.byContradiction
      intro hn
      refine h fun p r hp hr => ?_
      cases hw : win G 0 p r with
      | false => rfl
      | true => exact absurd ⟨p, r, hp, hr, hw⟩ hn
    show 0 < cnt G 0
    exact List.countP_pos_iff.2 ⟨(p, r), mem_sits.2 ⟨hp, hr⟩, hw⟩
  | succ t =>
    refine cnt_grow fun hs => h fun p r hp hr => ?_
    show win G (t + 1) p r = win G t p r
    cases hw : win G t p r with
    | true => exact win_mono hw
    | false =>
      cases h1 : win G (t + 1) p r with
      | false => rfl
      | true => rw [hs p r hp hr h1] at hw; cases hw
/-- the round of the cops: the first k places are done, and i moves of the next one -/
def moreW (G : Game) (W : Nat → Nat → Bool) (mvs : List Int) (i p r : Nat) : Bool := W p r || (mvs.take i).any fun q => lostOf G W q.toNat r
theorem moreW_zero (G : Game) (W : Nat → Nat → Bool) (mvs : List Int) (p : Nat) : moreW G W mvs 0 p = W p := by funext r; simp [moreW]
theorem moreW_succ {W : Nat → Nat → Bool} {mvs : List Int} {i p : Nat} {q : Int} (h : mvs[i]? = some q) (n : Nat) : numOf (moreW G W mvs i p) n ||| numOf (lostOf G W q.toNat) n = numOf (moreW G W mvs (i + 1) p) n := by
  apply Nat.eq_of_testBit_eq
  intro z
  rw [Nat.testBit_or, numOf_bit, numOf_bit, numOf_bit]
  unfold moreW
  rw [List.take_add_one, h, List.any_append]
  by_cases hz : z < n
  · simp [hz, Bool.or_assoc]
  · simp [hz]
/-- the places to which a list leads are the moves of a game -/
def MovesOf (G : Game) (ml : List (List Int)) : Prop := ml.length = G.P ∧ ∀ (p : Nat) mvs, ml[p]? = some mvs → (∀ q ∈ mvs, 0 ≤ q ∧ q < (G.P : Int)) ∧ ∀ q : Nat, q < G.P → (G.mv p q = true ↔ (q : Int) ∈ mvs)
theorem more_all {t p r : Nat} {ml : List (List Int)} {mvs : List Int} (h : MovesOf G ml) (hm : ml[p]? = some mvs) : moreW G (win G t) mvs mvs.length p r = win G (t + 1) p r := by
  obtain ⟨h1, h2⟩ := h.2 p mvs hm
  unfold moreW
  rw [List.take_length, Bool.eq_iff_iff, Bool.or_eq_true, win_succ, List.any_eq_true]
  refine or_congr Iff.rfl ⟨?_, ?_⟩
  · rintro ⟨q, hq, hl⟩
    have := h1 q hq
    refine ⟨q.toNat, by omega, (h2 _ (by omega)).2 (by rw [show ((q.toNat : Nat) : Int) = q from by omega]; exact hq), hl⟩
  · rintro ⟨q, hq, hmv, hl⟩
    exact ⟨(q : Int), (h2 q hq).1 hmv, hl⟩
end
end Go.Proofs.Ytpeobnmfndelhaa.times

/- The contracts of the program's sets as bits: bitsOf, has, nodes, closedBits, coversIn, cornersIn; and of slices.Contains. -/
namespace Go.Proofs.Ytpeobnmfndelhaa.bitsI
open Go.RowKit P2 words edges ints good adjs fns sets rets covs
set_option linter.unusedVariables false

theorem cell_keep {w w' : World} {b o : Nat} {v : Value} (h : w.cell? ⟨b, o, none⟩ = some v) (hb : Below w.heap.size w w') : w'.cell? ⟨b, o, none⟩ = some v :=
  (hb.cell (p := ⟨b, o, none⟩) (World.block_lt_of_cell? w (a := ⟨b, o, none⟩) h)).trans h
theorem wrap_pow {m : Nat} (hm : m ≤ 8) : IntKind.u64.wrap ((2 : Int) ^ m) = ((2 ^ m : Nat) : Int) := by
  have h : 2 ^ m ≤ 256 := by have := Nat.pow_le_pow_right (show 0 < 2 by decide) hm; simpa using this
  have h2 : ((2 : Int) ^ m) = ((2 ^ m : Nat) : Int) := by simp
  rw [h2]
  generalize 2 ^ m = p at *
  rw [IntKind.wrap_u64]; omega
theorem or_walk (a m : Nat) (ha : a < 256) (hm : m ≤ 8) : bits .or .u64 (a : Int) (IntKind.u64.wrap ((2 : Int) ^ m)) = ((a ||| 2 ^ m : Nat) : Int) := by
  have h : 2 ^ m ≤ 256 := by have := Nat.pow_le_pow_right (show 0 < 2 by decide) hm; simpa using this
  rw [wrap_pow hm, bits_or_u64_nat _ _ (by omega) (by omega)]
theorem has_walk (c k : Nat) (hc : c < 18446744073709551616) : (bits BinOp.and IntKind.u64 ((c : Int) / 2 ^ k) 1 == 1) = c.testBit k := by
  have h1 : ((c : Int) / 2 ^ k) = ((c / 2 ^ k : Nat) : Int) := by simp
  have hlt : c / 2 ^ k < 18446744073709551616 := Nat.lt_of_le_of_lt (Nat.div_le_self _ _) hc
  have h2 := bits_and_u64_nat (c / 2 ^ k) 1 hlt (by decide)
  rw [h1, show (1 : Int) = ((1 : Nat) : Int) from rfl, h2, show 1 = 2 ^ 1 - 1 from rfl, Nat.and_two_pow_sub_one_eq_mod, Nat.testBit_eq_decide_div_mod_eq, Bool.eq_iff_iff, beq_iff_eq, decide_eq_true_iff]
  omega

set_option maxHeartbeats 1000000 in
theorem has_any (c k : Nat) (w : World) (hc : c < 18446744073709551616) (hk : k ≤ 8) :
    Calls Try.prog 118 #[.int .u64 (c : Int), .int .i64 (k : Int)] w fun e w' => e = .returned (.bool (c.testBit k)) ∧ w = w' := by
  have HW := Lib.hid (has_walk c k hc)
  go_enter Try.func118, Try.ntmps118
  go_wp2_with fail
  go_ret
  exact ⟨ret_bool HW.out, rfl⟩

/-- nodesWhere over a method's value -/
theorem nodesWhere_first (n : Nat) (f : FuncId) (r : Value) (p : Nat → Bool) (w : World) (hn : n ≤ 8) (hent : ∀ (args : Array Value) (W : World), (callFunc f args).run Try.prog W = .ok (.enter f args) W)
    (hcall : ∀ W, ∀ x : Nat, x < n → Calls Try.prog f #[r, .int .i64 (x : Int)] W fun e W' => e = .returned (.bool (p x)) ∧ W = W') :
    Calls Try.prog 69 #[.int .i64 (n : Int), .func (.func f) #[r] #[]] w (RowI w (nw p n)) := by
  obtain ⟨i0, hi, hz0, hz1, hz2⟩ := info_parts infoInt
  have HC := Lib.hid hcall
  clear hcall
  go_enter Try.func69, Try.ntmps69
  go_wp2_with fail
  go_loopw [5, 8] (fun s i wr => ∃ k : Nat, k ≤ n ∧ i = .int .i64 (k : Int) ∧ wr.ownsRow w.heap.size 3 1 s (nw p k).length (cellsI (nw p k)) ∧ Below w.heap.size w wr) (fun _ i _ => n - (intOf i).toNat)
  case atStart => exact ⟨0, Nat.zero_le _, rfl, World.ownsRow_nil _ _ _ _, Below.refl _ _⟩
  case round =>
    obtain ⟨k, hk, rfl, hrow, hB⟩ := hrel
    have hlen := nw_len p k
    by_cases hlt : k < n
    · have hlt' : (k : Int) < (n : Int) := by omega
      have HCk := HC.out
      have HP := Lib.hid (fun (W : World) => HCk W k hlt)
      clear HCk
      have hsz := hB.size
      by_cases hp : p k = true
      · have HN := Lib.hid (nw_yes hp)
        rw [hp] at HP
        clear hp
        generalize nw p k = l at *
        go_wp2_with fail
        refine (HP.out _).mono ?_
        rintro e w1 ⟨rfl, rfl⟩
        go_wp2_with (at_builtin; refine wpList_append_own _ rfl _ _ 25 rfl (w.heap.size) 3 i0 (.int .i64 0) 1 8 Try.underlying25 hi hz0 hz1 hz2 rfl (by decide) _ _ _ rfl (hrow.alloc _) ⟨wr.heap.size, 0, none⟩ 1 1 [.int .i64 ((k : Int))] rfl rfl (cell_one_new _ _ _) (fun x hx => by simp at hx; subst hx; rfl) (by unfold maxLen; omega) (by omega) (by simp; omega) ?_; intro v2 w2 hown2 hgrow2 _)
        obtain ⟨hown3, hB2⟩ := push1 hrow hown2 hgrow2 hsz
        clear hgrow2 hrow hown2
        go_roundw
        case rel => exact ⟨k + 1, by omega, by go_num, by rw [HN.out]; exact hown3, hB.trans hB2⟩
        case measure => simp [intOf]; omega
      · have hp' : p k = false := by simpa using hp
        have HN := Lib.hid (nw_no hp')
        rw [hp'] at HP
        clear hp hp'
        go_wp2_with fail
        refine (HP.out _).mono ?_
        rintro e w1 ⟨rfl, rfl⟩
        go_wp2_with fail
        go_roundw
        case rel => exact ⟨k + 1, by omega, by go_num, by rw [HN.out]; exact hrow, hB⟩
        case measure => simp [intOf]; omega
    · obtain rfl : k = n := by omega
      obtain ⟨A, c, rfl⟩ := own_form hrow
      go_wp2_with fail
      go_ret
      exact ⟨A, c, rfl, hrow, hB⟩

theorem nodes_any (c : Nat) (w : World) (hc : c < 18446744073709551616) :
    Calls Try.prog 131 #[.int .u64 (c : Int)] w (RowI w (nw (bitB c) 8)) := by
  have hmf : ∀ (fn : Fn) (first cap : Array Value) (w : World), (Instr.makeFunc fn first cap).run Try.prog w = .ok (.func fn first cap) w := fun _ _ _ _ => rfl
  have HN := Lib.hid (nodesWhere_first 8 118 (.int .u64 (c : Int)) (bitB c) w (Nat.le_refl _) (fun _ _ => by kernel_rfl) (fun W x hx => has_any c x W hc (by omega)))
  go_enter Try.func131, Try.ntmps131
  go_wp2_with fail
  refine HN.out.mono ?_
  rintro e w1 ⟨A1, c1, rfl, o1, b1⟩
  go_wp2_with fail
  go_ret
  exact ⟨A1, c1, rfl, o1, b1⟩

set_option maxHeartbeats 1000000 in
theorem bitsOf_any (u : Value) (xs : List Int) (w : World) (hu : Ints w u xs) (hxl : xs.length ≤ 1048576) (hx : ∀ x ∈ xs, 0 ≤ x ∧ x < 8) :
    Calls Try.prog 85 #[u] w fun e w' => e = .returned (.int .u64 (codeL xs : Int)) ∧ w = w' := by
  obtain ⟨A2, c2, rfl, hc⟩ := hu.form
  have HC := Lib.hid hc
  have HX := Lib.hid hx
  clear hu hc hx
  go_enter Try.func85, Try.ntmps85
  go_wp2_with fail
  go_loop [3, 8] (fun s i => ∃ k : Nat, k ≤ xs.length ∧ i = .int .i64 (k : Int) ∧ s = .int .u64 (codeL (xs.take k) : Int)) (fun _ i => xs.length - (intOf i).toNat)
  case atStart => exact ⟨0, Nat.zero_le _, rfl, rfl⟩
  case round =>
    obtain ⟨k, hk, rfl, rfl⟩ := hrel
    by_cases hlt : k < xs.length
    · obtain ⟨x, hx⟩ : ∃ x, xs[k]? = some x := ⟨_, List.getElem?_eq_getElem hlt⟩
      obtain ⟨g, o, rfl, c0⟩ := HC.out k x hx
      have hlt' : (k : Int) < (xs.length : Int) := by omega
      have hx0 := HX.out x (List.mem_of_getElem? hx)
      obtain ⟨m, rfl⟩ : ∃ m : Nat, x = (m : Int) := ⟨x.toNat, by omega⟩
      have hm : m ≤ 8 := by omega
      have HS := Lib.hid (code_succ hx)
      have HT := Lib.hid (or_walk (codeL (xs.take k)) m (code_lt (m := 8) fun y hy => by have := HX.out y (List.mem_of_mem_take hy); omega) hm)
      clear hx
      go_wp2_with fail
      go_round
      case rel => exact ⟨k + 1, by omega, by go_num, by rw [HS.out, HT.out]; rfl⟩
      case measure => simp [intOf]; omega
    · obtain rfl : k = xs.length := by omega
      have HT : Hid (codeL (xs.take xs.length) = codeL xs) := by show _ = _; rw [List.take_length]
      go_wp2_with fail
      go_ret
      exact ⟨ret_int (by first | rfl | rw [HT.out]), rfl⟩

/-- a row of words -/
def cellsU (l : List Nat) : List Value := l.map fun a : Nat => .int .u64 (a : Int)
theorem cellsU_at {l : List Nat} {k x : Nat} (h : l[k]? = some x) : (cellsU l)[k]? = some (.int .u64 (x : Int)) := by simp [cellsU, h]
theorem cellsU_len (l : List Nat) : (cellsU l).length = l.length := by simp [cellsU]
theorem cellsU_set (l : List Nat) (k x : Nat) : (cellsU l).set k (.int .u64 (x : Int)) = cellsU (l.set k x) := by simp [cellsU, List.map_set]
abbrev Nums (w : World) (v : Value) (l : List Nat) : Prop := Reads w 1 v l.length (cellsU l)
theorem Nums.form {w : World} {v : Value} {l : List Nat} (h : Nums w v l) : ∃ A c, v = .slice A l.length c ∧ ∀ (k x : Nat), l[k]? = some x → ∃ g o, A = some ⟨g, o, none⟩ ∧ w.cell? ⟨g, o + k, none⟩ = some (.int .u64 (x : Int)) := by
  obtain ⟨A, c, e, hx⟩ := h
  refine ⟨A, c, e, fun k x hk => ?_⟩
  obtain ⟨g, o, rfl, _, hj⟩ := hx (by have := (List.getElem?_eq_some_iff.1 hk).1; omega)
  exact ⟨g, o, rfl, hj _ _ (cellsU_at hk)⟩
/-- the closed neighborhoods of all nodes -/
def clos (l : List Ed) (n : Nat) : List Nat := (List.range n).map (cloB l)
theorem clos_len (l : List Ed) (n : Nat) : (clos l n).length = n := by simp [clos]
theorem clos_at {l : List Ed} {n k : Nat} (h : k < n) : (clos l n)[k]? = some (cloB l k) := by simp [clos, h]

end Go.Proofs.Ytpeobnmfndelhaa.bitsI
