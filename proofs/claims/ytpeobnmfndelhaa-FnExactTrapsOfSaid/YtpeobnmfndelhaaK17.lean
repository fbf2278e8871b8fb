/- The time behind a move of the cops, and the move that they look for: plain mathematics. -/
import Derived.Test.YtpeobnmfndelhaaK14
import Derived.Test.YtpeobnmfndelhaaK10
import Derived.Test.YtpeobnmfndelhaaK01
import Derived.Test.YtpeobnmfndelhaaProg
import Derived.WalkLawsBesides
import Derived.WalkSpells
import Derived.IntWalk
import Derived.Handy
import Derived.Test.YtpeobnmfndelhaaK07
import Derived.Test.YtpeobnmfndelhaaK02
import Derived.Test.YtpeobnmfndelhaaK04
import Derived.Deep.DeepCutAuto
import Derived.BigQuiet
import Derived.StillTailTactics
namespace Go.Proofs.Ytpeobnmfndelhaa.times
open Go.RowKit P2 words fns sets covs
set_option linter.unusedVariables false

/-- the time behind a move of the cops to q -/
def afterG (G : Game) (T : Nat → Nat → Int) (l : List Ed) (q r : Nat) : Int := if G.tk q r = true then 0 else worstL (fun x => T q x.toNat) (ballL l G.n r)
theorem after_one (l : List Ed) (n : Nat) (T : Nat → Nat → Int) (q r : Nat) : afterG (one l n) T l q r = afterV T (ballL l n) q r := by
  unfold afterG afterV
  refine if_cong ?_
  show (q == r) = true ↔ q = r
  simp
theorem stable_soon (G : Game) : ∃ t, t ≤ G.P * G.n ∧ Stable G t := by
  apply Classical.byContradiction
  intro hn
  have h : ∀ t, t ≤ G.P * G.n + 1 → t ≤ cnt G t := by
    intro t
    induction t with
    | zero => intro _; omega
    | succ t ih =>
      intro ht
      have h1 := ih (by omega)
      have h2 := cnt_grow (G := G) (t := t) (fun hs => hn ⟨t, by omega, hs⟩)
      omega
  have h1 := h _ (Nat.le_refl _)
  have h2 := cnt_le G (G.P * G.n + 1)
  omega
theorem tms_le {G : Game} {p r : Nat} (hp : p < G.P) (hr : r < G.n) : tms G p r ≤ ((G.P * G.n : Nat) : Int) := by
  obtain ⟨t, h1, h2⟩ := stable_soon G
  rw [tms_eq h2 hp hr]
  have := (tm_small (G := G) t p r).2
  omega
theorem tm_first {G : Game} {j p r : Nat} (h : win G j p r = true) : ∀ i, tmTo G (j + i) p r ≤ j
  | 0 => (tm_in h).2.1
  | i + 1 => by
    show tmTo G (j + i + 1) p r ≤ j
    rw [tm_old (win_add h i)]
    exact tm_first h i
/-- there is a move with one less -/
theorem step_down {G : Game} {l : List Ed} (hb : G.ball = ballB l) {p r : Nat} (hp : p < G.P) (hr : r < G.n) (h : 1 ≤ tms G p r) : ∃ q, q < G.P ∧ G.mv p q = true ∧ afterG G (tms G) l q r = tms G p r - 1 := by
  obtain ⟨s, -, hs⟩ := stable_soon G
  have hT : ∀ p r, p < G.P → r < G.n → tms G p r = tmTo G s p r := fun p r hp hr => tms_eq hs hp hr
  rw [hT p r hp hr] at h ⊢
  obtain ⟨t, ht⟩ : ∃ t : Nat, tmTo G s p r = ((t + 1 : Nat) : Int) := ⟨(tmTo G s p r).toNat - 1, by omega⟩
  have hw := tm_iff.1 (show 0 ≤ tmTo G s p r from by omega)
  have hin := tm_in hw
  have hts : t + 1 ≤ s := by have := hin.2.1; omega
  have hw1 := hin.2.2 (t + 1) (by omega) hts
  have hw0 : win G t p r = false := by
    cases hx : win G t p r with
    | false => rfl
    | true =>
      have := tm_first hx (s - t)
      rw [show t + (s - t) = s from by omega] at this
      omega
  rcases win_succ.1 hw1 with h1 | ⟨q, hq, hm, hl⟩
  · rw [hw0] at h1; cases h1
  · refine ⟨q, hq, hm, ?_⟩
    rw [ht]
    have hnot : ∀ j : Nat, j < t → lostOf G (win G j) q r = true → False := fun j hj hlj => by
      have h1 := win_succ.2 (.inr ⟨q, hq, hm, hlj⟩)
      have h2 := win_add h1 (t - (j + 1))
      rw [show j + 1 + (t - (j + 1)) = t from by omega, hw0] at h2
      cases h2
    unfold afterG
    by_cases htk : G.tk q r = true
    · rw [if_pos htk]
      by_cases h0 : t = 0
      · subst h0; rfl
      · exact (hnot 0 (by omega) (lost_iff.2 (.inl htk))).elim
    · rw [if_neg htk]
      have hall := (lost_iff.1 hl).resolve_left htk
      have hge : 0 ≤ worstL (fun x => tms G q x.toNat) (ballL l G.n r) := worst_iff.2 fun b hbm => by
        obtain ⟨x, hx, hxb, rfl⟩ := mem_nw.1 hbm
        rw [Int.toNat_natCast, hT q x hq hx]
        have h2 := win_add (hall x hx (by rw [hb]; exact hxb)) (s - t)
        rw [show t + (s - t) = s from by omega] at h2
        exact tm_iff.2 h2
      have hle : worstL (fun x => tms G q x.toNat) (ballL l G.n r) ≤ t := (worst_le hge).2 ⟨by omega, fun b hbm => by
        obtain ⟨x, hx, hxb, rfl⟩ := mem_nw.1 hbm
        rw [Int.toNat_natCast, hT q x hq hx]
        have h2 := tm_first (hall x hx (by rw [hb]; exact hxb)) (s - t)
        rwa [show t + (s - t) = s from by omega] at h2⟩
      apply Classical.byContradiction
      intro hne
      obtain ⟨j, hj⟩ : ∃ j : Nat, worstL (fun x => tms G q x.toNat) (ballL l G.n r) = j := ⟨(worstL (fun x => tms G q x.toNat) (ballL l G.n r)).toNat, by omega⟩
      refine hnot j (by omega) (lost_iff.2 (.inr fun x hx hxb => ?_))
      have hm2 : (x : Int) ∈ ballL l G.n r := mem_nw.2 ⟨x, hx, by rw [← hb]; exact hxb, rfl⟩
      have h4 := ((worst_le hge).1 (by rw [hj]; exact Int.le_refl _ : _ ≤ (j : Int))).2 _ hm2
      have h5 := worst_iff.1 hge _ hm2
      rw [Int.toNat_natCast, hT q x hq hx] at h4 h5
      exact (tm_in (tm_iff.1 h5)).2.2 j h4 (by omega)
/-- the move that the cops look for -/
def huntB (G : Game) (T : Nat → Nat → Int) (l : List Ed) (p r : Nat) (q : Int) : Bool := decide (afterG G T l q.toNat r = T p r - 1)
def huntL (G : Game) (T : Nat → Nat → Int) (l : List Ed) (mvs : List Int) (p r : Nat) : Int := (mvs.find? (huntB G T l p r)).getD 0
theorem hunt_is {G : Game} {l : List Ed} {ml : List (List Int)} {mvs : List Int} (hb : G.ball = ballB l) (hm : MovesOf G ml) {p r : Nat} (hp : p < G.P) (hr : r < G.n) (hml : ml[p]? = some mvs) (h : 1 ≤ tms G p r) :
    ∃ (k q : Nat), mvs[k]? = some (q : Int) ∧ huntL G (tms G) l mvs p r = (q : Int) ∧ q < G.P ∧ huntB G (tms G) l p r (q : Int) = true ∧ ∀ j z, j < k → mvs[j]? = some z → huntB G (tms G) l p r z = false := by
  obtain ⟨q0, h1, h2, h3⟩ := step_down hb hp hr h
  have hmv := hm.2 p mvs hml
  have hin : (q0 : Int) ∈ mvs := (hmv.2 q0 h1).1 h2
  have hs : (mvs.find? (huntB G (tms G) l p r)).isSome = true := by
    rw [List.find?_isSome]
    exact ⟨_, hin, by unfold huntB; rw [decide_eq_true_iff, Int.toNat_natCast]; exact h3⟩
  obtain ⟨y, hy⟩ := Option.isSome_iff_exists.1 hs
  obtain ⟨hpy, k, hk, hky, hno⟩ := List.find?_eq_some_iff_getElem.1 hy
  have hkq : mvs[k]? = some y := by rw [List.getElem?_eq_getElem hk, hky]
  have hyr := hmv.1 y (List.mem_of_getElem? hkq)
  refine ⟨k, y.toNat, ?_, ?_, by omega, ?_, fun j z hj hz => ?_⟩
  · rw [hkq]; congr 1; omega
  · unfold huntL; rw [hy]; show y = _; omega
  · rw [show ((y.toNat : Nat) : Int) = y from by omega]; exact hpy
  · have := hno j hj
    obtain ⟨hjl, rfl⟩ := List.getElem?_eq_some_iff.1 hz
    simpa using this
theorem afterG_iff {G : Game} {l : List Ed} (hb : G.ball = ballB l) {t q r : Nat} : 0 ≤ afterG G (tmTo G t) l q r ↔ lostOf G (win G t) q r = true := by
  rw [lost_iff]
  unfold afterG
  by_cases h : G.tk q r = true
  · rw [if_pos h]; exact ⟨fun _ => .inl h, fun _ => by omega⟩
  · rw [if_neg h, worst_iff]
    constructor
    · intro hh
      right
      intro x hx hxb
      exact tm_iff.1 (by have := hh (x : Int) (mem_nw.2 ⟨x, hx, by rw [← hb]; exact hxb, rfl⟩); simpa using this)
    · rintro (hh | hh)
      · exact absurd hh h
      · intro b hbm
        obtain ⟨x, hx, hxb, rfl⟩ := mem_nw.1 hbm
        simpa using tm_iff.2 (hh x hx (by rw [hb]; exact hxb))
/-- the next round: a move that leads on -/
theorem next_yes4 {G : Game} {l : List Ed} (hb : G.ball = ballB l) {t p q r : Nat} (hq : q < G.P) (hm : G.mv p q = true) (h1 : tmTo G t p r < 0) (h2 : 0 ≤ afterG G (tmTo G t) l q r) : tmTo G (t + 1) p r = ((t + 1 : Nat) : Int) ∧ win G t p r = false ∧ win G (t + 1) p r = true := by
  have hw := tm_lt.1 h1
  have hw1 := win_succ.2 (.inr ⟨q, hq, hm, (afterG_iff hb).1 h2⟩)
  exact ⟨tm_new hw hw1, hw, hw1⟩
theorem next_no4 {G : Game} {l : List Ed} (hb : G.ball = ballB l) {t p r : Nat} (h : 0 ≤ tmTo G t p r ∨ ∀ q, q < G.P → G.mv p q = true → afterG G (tmTo G t) l q r < 0) : tmTo G (t + 1) p r = tmTo G t p r ∧ (win G (t + 1) p r = true → win G t p r = true) := by
  by_cases h1 : 0 ≤ tmTo G t p r
  · have hw := tm_iff.1 h1
    exact ⟨tm_old hw, fun _ => hw⟩
  · have h2 := h.resolve_left h1
    have hw := tm_lt.1 (show tmTo G t p r < 0 by omega)
    have hw1 : win G (t + 1) p r = false := by
      cases hx : win G (t + 1) p r with
      | false => rfl
      | true =>
        rcases win_succ.1 hx with h3 | ⟨q, hq, hm, hl⟩
        · rw [hw] at h3; cases h3
        · have := (afterG_iff hb).2 hl
          have := h2 q hq hm
          omega
    rw [tm_neg hw1, tm_neg hw]
    exact ⟨rfl, fun hh => by rw [hw1] at hh; cases hh⟩
end Go.Proofs.Ytpeobnmfndelhaa.times

/- The contracts of the model's l1Least and l1Most. -/
namespace Go.Proofs.Ytpeobnmfndelhaa.minmax
open Go.RowKit P2 words

theorem l1Most_any (a b : Int) (w : World) : Calls Try.prog 122 #[.int .i64 a, .int .i64 b] w fun e w' => e = .returned (.int .i64 (max a b)) ∧ w = w' := by
  by_cases h : b < a
  · have hm : Hid (max a b = a) := Int.max_eq_left (by omega)
    go_enter Try.func122, Try.ntmps122
    go_wp2_with fail
    go_ret
    exact ⟨ret_int hm.out.symm, rfl⟩
  · have hm : Hid (max a b = b) := Int.max_eq_right (by omega)
    go_enter Try.func122, Try.ntmps122
    go_wp2_with fail
    go_ret
    exact ⟨ret_int hm.out.symm, rfl⟩
end Go.Proofs.Ytpeobnmfndelhaa.minmax

/- The contracts of the model's l3Worst, l3After and l3Best. -/
namespace Go.Proofs.Ytpeobnmfndelhaa.times
open Go.RowKit P2 words edges ints good adjs fns sets rets covs balls minmax gridr
set_option linter.unusedVariables false

def rowL (n : Nat) (f : Nat → Int) : List Int := (List.range n).map f
def tabL (n : Nat) (T : Nat → Nat → Int) : List (List Int) := (List.range n).map fun p => rowL n (T p)
theorem rowL_len (n : Nat) (f : Nat → Int) : (rowL n f).length = n := by simp [rowL]
theorem rowL_at {n k : Nat} {f : Nat → Int} (h : k < n) : (rowL n f)[k]? = some (f k) := by simp [rowL, h]
theorem tabL_len (n : Nat) (T : Nat → Nat → Int) : (tabL n T).length = n := by simp [tabL]
theorem tabL_at {n k : Nat} {T : Nat → Nat → Int} (h : k < n) : (tabL n T)[k]? = some (rowL n (T k)) := by simp [tabL, h]
theorem ballL_mem {l : List Ed} {n x k : Nat} {b : Int} (h : (ballL l n x)[k]? = some b) : ∃ y : Nat, b = (y : Int) ∧ y < n ∧ ballB l x y = true := by
  obtain ⟨y, h1, h2, h3⟩ := mem_nw.1 (List.mem_of_getElem? h)
  exact ⟨y, h3, h1, h2⟩

end Go.Proofs.Ytpeobnmfndelhaa.times

/- The contract of the model's l3Times. -/
namespace Go.Proofs.Ytpeobnmfndelhaa.times
open Go.RowKit P2 words edges ints owns good adjs fns sets rets covs balls minmax gridr grid gridl
set_option linter.unusedVariables false

/-- so many rows of a table -/
def tabT (n : Nat) (T : Nat → Nat → Int) (k : Nat) : List (List Int) := (List.range k).map fun p => rowL n (T p)
theorem tabT_len (n : Nat) (T : Nat → Nat → Int) (k : Nat) : (tabT n T k).length = k := by simp [tabT]
theorem tabT_succ (n : Nat) (T : Nat → Nat → Int) (k : Nat) : tabT n T (k + 1) = tabT n T k ++ [rowL n (T k)] := by simp [tabT, List.range_succ]
theorem tabT_all (n : Nat) (T : Nat → Nat → Int) : tabT n T n = tabL n T := rfl
theorem rowL_succ (f : Nat → Int) (r : Nat) : rowL (r + 1) f = rowL r f ++ [f r] := by simp [rowL, List.range_succ]
def T0 (l : List Ed) (n : Nat) : Nat → Nat → Int := tmTo (one l n) 0
theorem T0_at (l : List Ed) (n c r : Nat) : T0 l n c r = if ((c : Int) == (r : Int)) = true then 0 else -1 := by
  show (if (c == r) = true then (0 : Int) else -1) = _
  by_cases h : c = r
  · subst h; simp
  · rw [if_neg (by simpa using h), if_neg (by simp; omega)]
theorem tabL_congr {n : Nat} {T U : Nat → Nat → Int} (h : ∀ p r, p < n → r < n → T p r = U p r) : tabL n T = tabL n U := by
  unfold tabL rowL
  refine List.map_congr_left fun p hp => List.map_congr_left fun r hr => h p r (List.mem_range.1 hp) (List.mem_range.1 hr)
def mixL (n : Nat) (T U : Nat → Int) (r : Nat) : List Int := (List.range n).map fun x => if x < r then U x else T x
theorem mixL_len (n : Nat) (T U : Nat → Int) (r : Nat) : (mixL n T U r).length = n := by simp [mixL]
theorem mixL_zero (n : Nat) (T U : Nat → Int) : mixL n T U 0 = rowL n T := by simp [mixL, rowL]
theorem mixL_all (n : Nat) (T U : Nat → Int) : mixL n T U n = rowL n U := by
  unfold mixL rowL
  exact List.map_congr_left fun x hx => if_pos (List.mem_range.1 hx)
theorem mixL_at {n r : Nat} {T U : Nat → Int} (h : r < n) : (mixL n T U r)[r]? = some (T r) := by simp [mixL, h]
theorem mixL_put {n r : Nat} {T U : Nat → Int} (h : r < n) : (mixL n T U r).set r (U r) = mixL n T U (r + 1) := by
  refine List.ext_getElem? fun x => ?_
  by_cases e : x = r
  · subst e
    rw [List.getElem?_set_self (by rw [mixL_len]; exact h)]
    simp [mixL, h]
  · rw [List.getElem?_set_ne (fun hh => e hh.symm)]
    by_cases hx : x < n
    · simp only [mixL, List.getElem?_map, List.getElem?_range hx, Option.map_some]
      by_cases h1 : x < r
      · rw [if_pos h1, if_pos (by omega)]
      · rw [if_neg h1, if_neg (by omega)]
    · rw [List.getElem?_eq_none (by rw [mixL_len]; omega), List.getElem?_eq_none (by rw [mixL_len]; omega)]
theorem mixL_keep {n r : Nat} {T U : Nat → Int} (h : r < n) (e : U r = T r) : mixL n T U (r + 1) = mixL n T U r := by
  rw [← mixL_put h, e]
  refine List.ext_getElem? fun x => ?_
  by_cases ex : x = r
  · subst ex
    rw [List.getElem?_set_self (by rw [mixL_len]; exact h), mixL_at h]
  · rw [List.getElem?_set_ne (fun hh => ex hh.symm)]
theorem grid_cell {w : World} {B i n c : Nat} {A : Option Addr} {us : List Value} {u : Value} (h : w.ownsRow B 25 1 (.slice A n c) n us) (hu : us[i]? = some u) :
    ∃ g, A = some ⟨g, 0, none⟩ ∧ w.cell? ⟨g, i, none⟩ = some u ∧ B ≤ g ∧ g < w.heap.size := by
  have hi := (List.getElem?_eq_some_iff.1 hu).1
  have hl := h.1
  rcases h.2 with ⟨hf, _⟩ | ⟨g, cap, cur, hf, _⟩
  · have := congrArg (fun v => match v with | .slice _ n _ => n | _ => 0) hf
    simp at this
    omega
  · obtain ⟨rfl, rfl⟩ : A = some ⟨g, 0, none⟩ ∧ c = cap := by simpa using hf
    have := h.cellAt i (by omega)
    rw [hu] at this
    exact ⟨g, rfl, this, (h.lt g rfl).1, (h.lt g rfl).2⟩
theorem row_tab {w : World} {B n p : Nat} {A : Option Addr} {c : Nat} {us : List Value} {T : Nat → Nat → Int} (h : OwnG w B (.slice A (tabL n T).length c) us (tabL n T)) (hp : p < n) :
    ∃ g A5 c5, A = some ⟨g, 0, none⟩ ∧ w.cell? ⟨g, p, none⟩ = some (.slice A5 (rowL n (T p)).length c5) ∧ Ints w (.slice A5 (rowL n (T p)).length c5) (rowL n (T p)) := by
  obtain ⟨u5, hu5, o5⟩ := h.row (tabL_at (T := T) hp)
  obtain ⟨A5, c5, rfl⟩ := own_form o5
  obtain ⟨g, rfl, f5, _⟩ := grid_cell h.1 hu5
  exact ⟨g, A5, c5, rfl, f5, Reads.of_own o5⟩
theorem cells_set4 (D : List Int) (y : Nat) (u : Int) : (cellsI D).set y (.int .i64 u) = cellsI (D.set y u) := by simp [cellsI, List.map_set]
end Go.Proofs.Ytpeobnmfndelhaa.times
