/- The time behind a move of the cops, and the move that they look for: plain mathematics. -/
import Derived.Test.YtjcnngnahijceaaTimeL
import Derived.Test.YtjcnngnahijceaaGameM
import Derived.Test.YtjcnngnahijceaaWords
import Derived.Test.YtjcnngnahijceaaProg
import Derived.WalkLawsBesides
import Derived.WalkSpells
import Derived.IntWalk
import Derived.Handy
import Derived.Test.YtjcnngnahijceaaBall
import Derived.Test.YtjcnngnahijceaaGridR
import Derived.Test.YtjcnngnahijceaaNearV
import Derived.Deep.DeepCutAuto
import Derived.BigQuiet
import Derived.StillTailTactics
import Derived.Test.YtjcnngnahijceaaTimeT
import Derived.Test.YtjcnngnahijceaaGridW
import Derived.Test.YtjcnngnahijceaaGridL
import Derived.Test.YtjcnngnahijceaaC01
import Derived.Test.YtjcnngnahijceaaMovS
namespace Go.Proofs.Ytjcnngnahijceaa.times
open Go.RowKit P2 words fns sets covs
set_option linter.unusedVariables false

/-- the time behind a move of the cops to q -/
def afterG (G : Game) (T : Nat → Nat → Int) (l : List Ed) (q r : Nat) : Int := if G.tk q r = true then 0 else worstL (fun x => T q x.toNat) (ballL l G.n r)
theorem after_one (l : List Ed) (n : Nat) (T : Nat → Nat → Int) (q r : Nat) : afterG (one l n) T l q r = afterV T (ballL l n) q r := by
  unfold afterG afterV
  refine if_cong ?_
  show (q == r) = true ↔ q = r
  simp
theorem stable_soon (G : Game) : ∃ t, t ≤ G.P * G.n ∧ Stable G t := by
  apply Classical.byContradiction
  intro hn
  have h : ∀ t, t ≤ G.P * G.n + 1 → t ≤ cnt G t := by
    intro t
    induction t with
    | zero => intro _; omega
    | succ t ih =>
      intro ht
      have h1 := ih (by omega)
      have h2 := cnt_grow (G := G) (t := t) (fun hs => hn ⟨t, by omega, hs⟩)
      omega
  have h1 := h _ (Nat.le_refl _)
  have h2 := cnt_le G (G.P * G.n + 1)
  omega
theorem tms_le {G : Game} {p r : Nat} (hp : p < G.P) (hr : r < G.n) : tms G p r ≤ ((G.P * G.n : Nat) : Int) := by
  obtain ⟨t, h1, h2⟩ := stable_soon G
  rw [tms_eq h2 hp hr]
  have := (tm_small (G := G) t p r).2
  omega
theorem tm_first {G : Game} {j p r : Nat} (h : win G j p r = true) : ∀ i, tmTo G (j + i) p r ≤ j
  | 0 => (tm_in h).2.1
  | i + 1 => by
    show tmTo G (j + i + 1) p r ≤ j
    rw [tm_old (win_add h i)]
    exact tm_first h i
/-- there is a move with one less -/
theorem step_down {G : Game} {l : List Ed} (hb : G.ball = ballB l) {p r : Nat} (hp : p < G.P) (hr : r < G.n) (h : 1 ≤ tms G p r) : ∃ q, q < G.P ∧ G.mv p q = true ∧ afterG G (tms G) l q r = tms G p r - 1 := by
  obtain ⟨s, -, hs⟩ := stable_soon G
  have hT : ∀ p r, p < G.P → r < G.n → tms G p r = tmTo G s p r := fun p r hp hr => tms_eq hs hp hr
  rw [hT p r hp hr] at h ⊢
  obtain ⟨t, ht⟩ : ∃ t : Nat, tmTo G s p r = ((t + 1 : Nat) : Int) := ⟨(tmTo G s p r).toNat - 1, by omega⟩
  have hw := tm_iff.1 (show 0 ≤ tmTo G s p r from by omega)
  have hin := tm_in hw
  have hts : t + 1 ≤ s := by have := hin.2.1; omega
  have hw1 := hin.2.2 (t + 1) (by omega) hts
  have hw0 : win G t p r = false := by
    cases hx : win G t p r with
    | false => rfl
    | true =>
      have := tm_first hx (s - t)
      rw [show t + (s - t) = s from by omega] at this
      omega
  rcases win_succ.1 hw1 with h1 | ⟨q, hq, hm, hl⟩
  · rw [hw0] at h1; cases h1
  · refine ⟨q, hq, hm, ?_⟩
    rw [ht]
    have hnot : ∀ j : Nat, j < t → lostOf G (win G j) q r = true → False := fun j hj hlj => by
      have h1 := win_succ.2 (.inr ⟨q, hq, hm, hlj⟩)
      have h2 := win_add h1 (t - (j + 1))
      rw [show j + 1 + (t - (j + 1)) = t from by omega, hw0] at h2
      cases h2
    unfold afterG
    by_cases htk : G.tk q r = true
    · rw [if_pos htk]
      by_cases h0 : t = 0
      · subst h0; rfl
      · exact (hnot 0 (by omega) (lost_iff.2 (.inl htk))).elim
    · rw [if_neg htk]
      have hall := (lost_iff.1 hl).resolve_left htk
      have hge : 0 ≤ worstL (fun x => tms G q x.toNat) (ballL l G.n r) := worst_iff.2 fun b hbm => by
        obtain ⟨x, hx, hxb, rfl⟩ := mem_nw.1 hbm
        rw [Int.toNat_natCast, hT q x hq hx]
        have h2 := win_add (hall x hx (by rw [hb]; exact hxb)) (s - t)
        rw [show t + (s - t) = s from by omega] at h2
        exact tm_iff.2 h2
      have hle : worstL (fun x => tms G q x.toNat) (ballL l G.n r) ≤ t := (worst_le hge).2 ⟨by omega, fun b hbm => by
        obtain ⟨x, hx, hxb, rfl⟩ := mem_nw.1 hbm
        rw [Int.toNat_natCast, hT q x hq hx]
        have h2 := tm_first (hall x hx (by rw [hb]; exact hxb)) (s - t)
        rwa [show t + (s - t) = s from by omega] at h2⟩
      apply Classical.byContradiction
      intro hne
      obtain ⟨j, hj⟩ : ∃ j : Nat, worstL (fun x => tms G q x.toNat) (ballL l G.n r) = j := ⟨(worstL (fun x => tms G q x.toNat) (ballL l G.n r)).toNat, by omega⟩
      refine hnot j (by omega) (lost_iff.2 (.inr fun x hx hxb => ?_))
      have hm2 : (x : Int) ∈ ballL l G.n r := mem_nw.2 ⟨x, hx, by rw [← hb]; exact hxb, rfl⟩
      have h4 := ((worst_le hge).1 (by rw [hj]; exact Int.le_refl _ : _ ≤ (j : Int))).2 _ hm2
      have h5 := worst_iff.1 hge _ hm2
      rw [Int.toNat_natCast, hT q x hq hx] at h4 h5
      exact (tm_in (tm_iff.1 h5)).2.2 j h4 (by omega)
/-- the move that the cops look for -/
def huntB (G : Game) (T : Nat → Nat → Int) (l : List Ed) (p r : Nat) (q : Int) : Bool := decide (afterG G T l q.toNat r = T p r - 1)
def huntL (G : Game) (T : Nat → Nat → Int) (l : List Ed) (mvs : List Int) (p r : Nat) : Int := (mvs.find? (huntB G T l p r)).getD 0
theorem hunt_is {G : Game} {l : List Ed} {ml : List (List Int)} {mvs : List Int} (hb : G.ball = ballB l) (hm : MovesOf G ml) {p r : Nat} (hp : p < G.P) (hr : r < G.n) (hml : ml[p]? = some mvs) (h : 1 ≤ tms G p r) :
    ∃ (k q : Nat), mvs[k]? = some (q : Int) ∧ huntL G (tms G) l mvs p r = (q : Int) ∧ q < G.P ∧ huntB G (tms G) l p r (q : Int) = true ∧ ∀ j z, j < k → mvs[j]? = some z → huntB G (tms G) l p r z = false := by
  obtain ⟨q0, h1, h2, h3⟩ := step_down hb hp hr h
  have hmv := hm.2 p mvs hml
  have hin : (q0 : Int) ∈ mvs := (hmv.2 q0 h1).1 h2
  have hs : (mvs.find? (huntB G (tms G) l p r)).isSome = true := by
    rw [List.find?_isSome]
    exact ⟨_, hin, by unfold huntB; rw [decide_eq_true_iff, Int.toNat_natCast]; exact h3⟩
  obtain ⟨y, hy⟩ := Option.isSome_iff_exists.1 hs
  obtain ⟨hpy, k, hk, hky, hno⟩ := List.find?_eq_some_iff_getElem.1 hy
  have hkq : mvs[k]? = some y := by rw [List.getElem?_eq_getElem hk, hky]
  have hyr := hmv.1 y (List.mem_of_getElem? hkq)
  refine ⟨k, y.toNat, ?_, ?_, by omega, ?_, fun j z hj hz => ?_⟩
  · rw [hkq]; congr 1; omega
  · unfold huntL; rw [hy]; show y = _; omega
  · rw [show ((y.toNat : Nat) : Int) = y from by omega]; exact hpy
  · have := hno j hj
    obtain ⟨hjl, rfl⟩ := List.getElem?_eq_some_iff.1 hz
    simpa using this
theorem afterG_iff {G : Game} {l : List Ed} (hb : G.ball = ballB l) {t q r : Nat} : 0 ≤ afterG G (tmTo G t) l q r ↔ lostOf G (win G t) q r = true := by
  rw [lost_iff]
  unfold afterG
  by_cases h : G.tk q r = true
  · rw [if_pos h]; exact ⟨fun _ => .inl h, fun _ => by omega⟩
  · rw [if_neg h, worst_iff]
    constructor
    · intro hh
      right
      intro x hx hxb
      exact tm_iff.1 (by have := hh (x : Int) (mem_nw.2 ⟨x, hx, by rw [← hb]; exact hxb, rfl⟩); simpa using this)
    · rintro (hh | hh)
      · exact absurd hh h
      · intro b hbm
        obtain ⟨x, hx, hxb, rfl⟩ := mem_nw.1 hbm
        simpa using tm_iff.2 (hh x hx (by rw [hb]; exact hxb))
/-- the next round: a move that leads on -/
theorem next_yes4 {G : Game} {l : List Ed} (hb : G.ball = ballB l) {t p q r : Nat} (hq : q < G.P) (hm : G.mv p q = true) (h1 : tmTo G t p r < 0) (h2 : 0 ≤ afterG G (tmTo G t) l q r) : tmTo G (t + 1) p r = ((t + 1 : Nat) : Int) ∧ win G t p r = false ∧ win G (t + 1) p r = true := by
  have hw := tm_lt.1 h1
  have hw1 := win_succ.2 (.inr ⟨q, hq, hm, (afterG_iff hb).1 h2⟩)
  exact ⟨tm_new hw hw1, hw, hw1⟩
theorem next_no4 {G : Game} {l : List Ed} (hb : G.ball = ballB l) {t p r : Nat} (h : 0 ≤ tmTo G t p r ∨ ∀ q, q < G.P → G.mv p q = true → afterG G (tmTo G t) l q r < 0) : tmTo G (t + 1) p r = tmTo G t p r ∧ (win G (t + 1) p r = true → win G t p r = true) := by
  by_cases h1 : 0 ≤ tmTo G t p r
  · have hw := tm_iff.1 h1
    exact ⟨tm_old hw, fun _ => hw⟩
  · have h2 := h.resolve_left h1
    have hw := tm_lt.1 (show tmTo G t p r < 0 by omega)
    have hw1 : win G (t + 1) p r = false := by
      cases hx : win G (t + 1) p r with
      | false => rfl
      | true =>
        rcases win_succ.1 hx with h3 | ⟨q, hq, hm, hl⟩
        · rw [hw] at h3; cases h3
        · have := (afterG_iff hb).2 hl
          have := h2 q hq hm
          omega
    rw [tm_neg hw1, tm_neg hw]
    exact ⟨rfl, fun hh => by rw [hw1] at hh; cases hh⟩
end Go.Proofs.Ytjcnngnahijceaa.times

/- The contracts of the model's l1Least and l1Most. -/
namespace Go.Proofs.Ytjcnngnahijceaa.minmax
open Go.RowKit P2 words

theorem l1Least_any (a b : Int) (w : World) : Calls Try.prog 50 #[.int .i64 a, .int .i64 b] w fun e w' => e = .returned (.int .i64 (min a b)) ∧ w = w' := by
  by_cases h : a < b
  · have hm : Hid (min a b = a) := Int.min_eq_left (by omega)
    go_enter Try.func50, Try.ntmps50
    go_wp2_with fail
    go_ret
    exact ⟨ret_int hm.out.symm, rfl⟩
  · have hm : Hid (min a b = b) := Int.min_eq_right (by omega)
    go_enter Try.func50, Try.ntmps50
    go_wp2_with fail
    go_ret
    exact ⟨ret_int hm.out.symm, rfl⟩
theorem l1Most_any (a b : Int) (w : World) : Calls Try.prog 100 #[.int .i64 a, .int .i64 b] w fun e w' => e = .returned (.int .i64 (max a b)) ∧ w = w' := by
  by_cases h : b < a
  · have hm : Hid (max a b = a) := Int.max_eq_left (by omega)
    go_enter Try.func100, Try.ntmps100
    go_wp2_with fail
    go_ret
    exact ⟨ret_int hm.out.symm, rfl⟩
  · have hm : Hid (max a b = b) := Int.max_eq_right (by omega)
    go_enter Try.func100, Try.ntmps100
    go_wp2_with fail
    go_ret
    exact ⟨ret_int hm.out.symm, rfl⟩
end Go.Proofs.Ytjcnngnahijceaa.minmax

/- The contracts of the model's l3Worst, l3After and l3Best. -/
namespace Go.Proofs.Ytjcnngnahijceaa.times
open Go.RowKit P2 words edges ints good adjs fns sets rets covs balls minmax gridr
set_option linter.unusedVariables false

def rowL (n : Nat) (f : Nat → Int) : List Int := (List.range n).map f
def tabL (n : Nat) (T : Nat → Nat → Int) : List (List Int) := (List.range n).map fun p => rowL n (T p)
theorem rowL_len (n : Nat) (f : Nat → Int) : (rowL n f).length = n := by simp [rowL]
theorem rowL_at {n k : Nat} {f : Nat → Int} (h : k < n) : (rowL n f)[k]? = some (f k) := by simp [rowL, h]
theorem tabL_len (n : Nat) (T : Nat → Nat → Int) : (tabL n T).length = n := by simp [tabL]
theorem tabL_at {n k : Nat} {T : Nat → Nat → Int} (h : k < n) : (tabL n T)[k]? = some (rowL n (T k)) := by simp [tabL, h]
theorem ballL_mem {l : List Ed} {n x k : Nat} {b : Int} (h : (ballL l n x)[k]? = some b) : ∃ y : Nat, b = (y : Int) ∧ y < n ∧ ballB l x y = true := by
  obtain ⟨y, h1, h2, h3⟩ := mem_nw.1 (List.mem_of_getElem? h)
  exact ⟨y, h3, h1, h2⟩

end Go.Proofs.Ytjcnngnahijceaa.times

/- The contract of the model's l3Times. -/
namespace Go.Proofs.Ytjcnngnahijceaa.times
open Go.RowKit P2 words edges ints owns good adjs fns sets rets covs balls minmax gridr grid gridl
set_option linter.unusedVariables false

/-- so many rows of a table -/
def tabT (n : Nat) (T : Nat → Nat → Int) (k : Nat) : List (List Int) := (List.range k).map fun p => rowL n (T p)
theorem tabT_len (n : Nat) (T : Nat → Nat → Int) (k : Nat) : (tabT n T k).length = k := by simp [tabT]
theorem tabT_succ (n : Nat) (T : Nat → Nat → Int) (k : Nat) : tabT n T (k + 1) = tabT n T k ++ [rowL n (T k)] := by simp [tabT, List.range_succ]
theorem tabT_all (n : Nat) (T : Nat → Nat → Int) : tabT n T n = tabL n T := rfl
theorem rowL_succ (f : Nat → Int) (r : Nat) : rowL (r + 1) f = rowL r f ++ [f r] := by simp [rowL, List.range_succ]
def T0 (l : List Ed) (n : Nat) : Nat → Nat → Int := tmTo (one l n) 0
theorem T0_at (l : List Ed) (n c r : Nat) : T0 l n c r = if ((c : Int) == (r : Int)) = true then 0 else -1 := by
  show (if (c == r) = true then (0 : Int) else -1) = _
  by_cases h : c = r
  · subst h; simp
  · rw [if_neg (by simpa using h), if_neg (by simp; omega)]
theorem tabL_congr {n : Nat} {T U : Nat → Nat → Int} (h : ∀ p r, p < n → r < n → T p r = U p r) : tabL n T = tabL n U := by
  unfold tabL rowL
  refine List.map_congr_left fun p hp => List.map_congr_left fun r hr => h p r (List.mem_range.1 hp) (List.mem_range.1 hr)
def mixL (n : Nat) (T U : Nat → Int) (r : Nat) : List Int := (List.range n).map fun x => if x < r then U x else T x
theorem mixL_len (n : Nat) (T U : Nat → Int) (r : Nat) : (mixL n T U r).length = n := by simp [mixL]
theorem mixL_zero (n : Nat) (T U : Nat → Int) : mixL n T U 0 = rowL n T := by simp [mixL, rowL]
theorem mixL_all (n : Nat) (T U : Nat → Int) : mixL n T U n = rowL n U := by
  unfold mixL rowL
  exact List.map_congr_left fun x hx => if_pos (List.mem_range.1 hx)
theorem mixL_at {n r : Nat} {T U : Nat → Int} (h : r < n) : (mixL n T U r)[r]? = some (T r) := by simp [mixL, h]
theorem mixL_put {n r : Nat} {T U : Nat → Int} (h : r < n) : (mixL n T U r).set r (U r) = mixL n T U (r + 1) := by
  refine List.ext_getElem? fun x => ?_
  by_cases e : x = r
  · subst e
    rw [List.getElem?_set_self (by rw [mixL_len]; exact h)]
    simp [mixL, h]
  · rw [List.getElem?_set_ne (fun hh => e hh.symm)]
    by_cases hx : x < n
    · simp only [mixL, List.getElem?_map, List.getElem?_range hx, Option.map_some]
      by_cases h1 : x < r
      · rw [if_pos h1, if_pos (by omega)]
      · rw [if_neg h1, if_neg (by omega)]
    · rw [List.getElem?_eq_none (by rw [mixL_len]; omega), List.getElem?_eq_none (by rw [mixL_len]; omega)]
theorem mixL_keep {n r : Nat} {T U : Nat → Int} (h : r < n) (e : U r = T r) : mixL n T U (r + 1) = mixL n T U r := by
  rw [← mixL_put h, e]
  refine List.ext_getElem? fun x => ?_
  by_cases ex : x = r
  · subst ex
    rw [List.getElem?_set_self (by rw [mixL_len]; exact h), mixL_at h]
  · rw [List.getElem?_set_ne (fun hh => ex hh.symm)]
theorem grid_cell {w : World} {B i n c : Nat} {A : Option Addr} {us : List Value} {u : Value} (h : w.ownsRow B 32 1 (.slice A n c) n us) (hu : us[i]? = some u) :
    ∃ g, A = some ⟨g, 0, none⟩ ∧ w.cell? ⟨g, i, none⟩ = some u ∧ B ≤ g ∧ g < w.heap.size := by
  have hi := (List.getElem?_eq_some_iff.1 hu).1
  have hl := h.1
  rcases h.2 with ⟨hf, _⟩ | ⟨g, cap, cur, hf, _⟩
  · have := congrArg (fun v => match v with | .slice _ n _ => n | _ => 0) hf
    simp at this
    omega
  · obtain ⟨rfl, rfl⟩ : A = some ⟨g, 0, none⟩ ∧ c = cap := by simpa using hf
    have := h.cellAt i (by omega)
    rw [hu] at this
    exact ⟨g, rfl, this, (h.lt g rfl).1, (h.lt g rfl).2⟩
theorem row_tab {w : World} {B n p : Nat} {A : Option Addr} {c : Nat} {us : List Value} {T : Nat → Nat → Int} (h : OwnG w B (.slice A (tabL n T).length c) us (tabL n T)) (hp : p < n) :
    ∃ g A5 c5, A = some ⟨g, 0, none⟩ ∧ w.cell? ⟨g, p, none⟩ = some (.slice A5 (rowL n (T p)).length c5) ∧ Ints w (.slice A5 (rowL n (T p)).length c5) (rowL n (T p)) := by
  obtain ⟨u5, hu5, o5⟩ := h.row (tabL_at (T := T) hp)
  obtain ⟨A5, c5, rfl⟩ := own_form o5
  obtain ⟨g, rfl, f5, _⟩ := grid_cell h.1 hu5
  exact ⟨g, A5, c5, rfl, f5, Reads.of_own o5⟩
theorem cells_set4 (D : List Int) (y : Nat) (u : Int) : (cellsI D).set y (.int .i64 u) = cellsI (D.set y u) := by simp [cellsI, List.map_set]
end Go.Proofs.Ytjcnngnahijceaa.times

/- The game as the model has it, and the contract of the model's l4After. -/
namespace Go.Proofs.Ytjcnngnahijceaa.lists
open Go.RowKit P2 words edges ints good adjs fns sets rets apps gridr grid trip covs bitsI times mids balls minmax
set_option linter.unusedVariables false

def ballG (l : List Ed) (n : Nat) : List (List Int) := (List.range n).map (ballL l n)
theorem ballG_len (l : List Ed) (n : Nat) : (ballG l n).length = n := by simp [ballG]
theorem ballG_at {l : List Ed} {n x : Nat} (h : x < n) : (ballG l n)[x]? = some (ballL l n x) := by simp [ballG, h]
theorem mem_cfg {n k p r : Nat} : decide ((r : Int) ∈ castL (cfg n k p)) = decide (r ∈ cfg n k p) := by
  rw [decide_eq_decide]
  constructor
  · intro h
    obtain ⟨y, hy, e⟩ := List.mem_map.1 h
    have : y = r := by omega
    subst this; exact hy
  · exact fun h => List.mem_map.2 ⟨r, h, rfl⟩
/-- the game as the model has it -/
structure HS (w : World) (l : List Ed) (n k : Nat) (fv mv bv : Value) (uf um ub : List Value) : Prop where
  cfgs : ReadsG w fv uf (rowsN (listsN n k 0))
  moves : ReadsG w mv um (mvG l n k)
  balls : ReadsG w bv ub (ballG l n)
theorem HS.below {w w' : World} {l : List Ed} {n k : Nat} {fv mv bv : Value} {uf um ub : List Value} (h : HS w l n k fv mv bv uf um ub) (hb : Below w.heap.size w w') : HS w' l n k fv mv bv uf um ub := ⟨h.cfgs.below hb, h.moves.below hb, h.balls.below hb⟩
theorem blk3 {w : World} {g : Nat} {t : TypeId} {a b c : Value} (h : Blk w g t #[a, b, c]) : w.cell? ⟨g, 0, none⟩ = some a ∧ w.cell? ⟨g, 1, none⟩ = some b ∧ w.cell? ⟨g, 2, none⟩ = some c := ⟨h.cell 0, h.cell 1, h.cell 2⟩
set_option maxHeartbeats 4000000 in
set_option maxRecDepth 100000 in
theorem l4After_any (n k q r : Nat) (T : Nat → Nat → Int) (fv mv bv t : Value) (uf um ub us : List Value) (l : List Ed) (w : World) (h : HS w l n k fv mv bv uf um ub) (ht : ReadsG w t us (gridG (gameN l n k).P n T)) (hn : n ≤ 8) (hk : k ≤ 3) (hq : q < (gameN l n k).P) (hr : r < n) :
    Calls Try.prog 128 #[.agg #[fv, mv, bv], t, .int .i64 (q : Int), .int .i64 (r : Int)] w fun e w' => e = .returned (.int .i64 (afterG (gameN l n k) T l q r)) ∧ Below w.heap.size w w' := by
  obtain ⟨Af, cf, rfl, -⟩ := h.cfgs.1
  obtain ⟨Am, cm, rfl, -⟩ := h.moves.1
  obtain ⟨Ab, cb, rfl, -⟩ := h.balls.1
  obtain ⟨At, ct, rfl, -⟩ := ht.1
  rw [rowsN_len, mvG_len, ballG_len, gridG_len] at *
  obtain ⟨u1, g1, o1, hu1, rfl, c1, hr1⟩ := h.cfgs.row (rowsN_at (cfg_at (n := n) (k := k) (p := q) hq))
  obtain ⟨A1, k1, rfl, -⟩ := hr1.form
  obtain ⟨u2, g2, o2, hu2, rfl, c2, hr2⟩ := h.balls.row (ballG_at (l := l) hr)
  obtain ⟨A2, k2, rfl, hc2⟩ := hr2.form
  obtain ⟨u3, g3, o3, hu3, rfl, c3, hr3⟩ := ht.row (gridG_at (n := n) (T := T) hq)
  obtain ⟨A3, k3, rfl, hc3⟩ := hr3.form
  rw [rowG_len] at c3
  have hPl : (gameN l n k).P = (listsN n k 0).length := rfl
  have HPL := Lib.hid hPl
  have hcl : (castL (cfg n k q)).length ≤ 1048576 := by rw [castL_len, cfg_len hq]; omega
  have b0 : Below w.heap.size w (w.alloc (.cells #[.slice (some ⟨g1, o1, none⟩) (listsN n k 0).length cf, .slice Am (gameN l n k).P cm, .slice (some ⟨g2, o2, none⟩) n cb] 90)) := (Below.refl _ _).alloc (Nat.le_refl _) _
  have g0 := Blk.new w 90 #[.slice (some ⟨g1, o1, none⟩) (listsN n k 0).length cf, .slice Am (gameN l n k).P cm, .slice (some ⟨g2, o2, none⟩) n cb]
  obtain ⟨p0, p1, p2⟩ := blk3 g0
  have HAS := Lib.hid (l1Has_any _ (castL (cfg n k q)) (r : Int) _ (hr1.below b0) hcl)
  rw [mem_cfg] at HAS
  have HB0 := Lib.hid b0
  have HC2 := Lib.hid hc2
  have HC3 := Lib.hid hc3
  have s1 := nearv.cell_keep c1 b0
  have s2 := nearv.cell_keep c2 b0
  have s3 := nearv.cell_keep c3 b0
  have HS3 := Lib.hid c3
  have hq1 : (q : Int) < ((listsN n k 0).length : Int) := by omega
  have hq2 : (q : Int) < ((gameN l n k).P : Int) := by omega
  have hrn : (r : Int) < (n : Int) := by omega
  have hbl := nw_len (ballB l r) n
  have hbe : nw (ballB l r) n = ballL l n r := rfl
  rw [hbe] at hbl
  have HBL := Lib.hid (fun j b hb => ballL_mem (l := l) (n := n) (x := r) (k := j) (b := b) hb)
  have hrl : (rowG n (T q)).length = n := rowG_len n (T q)
  have HRL := Lib.hid hrl
  have HAG := Lib.hid (show afterG (gameN l n k) T l q r = if decide (r ∈ cfg n k q) = true then 0 else worstL (fun x => T q x.toNat) (ballL l n r) from rfl)
  clear h ht hu1 hu2 hu3 hr1 hr2 hr3 hc2 hc3 c1 c2 c3 b0 g0 hPl hrl hbe hcl
  cases htk : decide (r ∈ cfg n k q) with
  | true =>
    have HV : Hid (afterG (gameN l n k) T l q r = 0) := by show _ = _; rw [HAG.out, htk]; rfl
    rw [htk] at HAS
    clear htk
    go_enter Try.func128, Try.ntmps128
    go_wp2_with fail
    refine HAS.out.mono ?_
    rintro e w' ⟨rfl, rfl⟩
    go_wp2_with fail
    go_ret
    exact ⟨ret_int HV.out.symm, HB0.out⟩
  | false =>
    have HV : Hid (afterG (gameN l n k) T l q r = worstL (fun x => T q x.toNat) (ballL l n r)) := by show _ = _; rw [HAG.out, htk]; rfl
    rw [htk] at HAS
    clear htk
    generalize ballL l n r = bl at *
    go_enter Try.func128, Try.ntmps128
    go_wp2_with fail
    refine HAS.out.mono ?_
    rintro e w' ⟨rfl, rfl⟩
    go_wp2_with fail
    go_quiet (fail)
    go_wp2_with fail
    have HB1 := Lib.hid (below_drewN HB0.out nq)
    clear p0 p1 p2 s1 s2 s3
    go_loopg [9, 11] bl.length (fun g m i wr => ∃ j : Nat, j + g = bl.length ∧ i = .int .i64 (j : Int) ∧ m = .int .i64 (mostL (fun x => T q x.toNat) (bl.take j)) ∧ Hid (∀ i b, i < j → bl[i]? = some b → 0 ≤ T q b.toNat) ∧ Below w.heap.size w wr)
    case atStart => exact ⟨0, by omega, rfl, rfl, fun i b h => by omega, HB1.out⟩
    case round =>
      clear HB1
      obtain ⟨j, hjg, rfl, rfl, hok, hB⟩ := hrel
      cases gk with
      | zero =>
        obtain rfl : j = bl.length := by omega
        have HY : Hid (worstL (fun x => T q x.toNat) bl = mostL (fun x => T q x.toNat) (bl.take bl.length)) := by show _ = _; rw [List.take_length]; exact worst_yes hok.out
        go_wp2_with fail
        go_ret
        exact ⟨ret_int (HY.out.symm.trans HV.out.symm), hB⟩
      | succ gg =>
        have hlt : j < bl.length := by omega
        have hlt' : (j : Int) < (bl.length : Int) := by omega
        obtain ⟨b, hb⟩ : ∃ b, bl[j]? = some b := ⟨_, List.getElem?_eq_getElem hlt⟩
        obtain ⟨ga, oa, rfl, d0⟩ := HC2.out j b hb
        have m0 : wr.cell? ⟨ga, oa + j, none⟩ = some (.int .i64 b) := nearv.cell_keep d0 hB
        obtain ⟨y, rfl, hy, -⟩ := HBL.out j b hb
        have hy9 : (y : Int) < (n : Int) := by omega
        have hy0 : (0 : Int) ≤ (y : Int) := by omega
        obtain ⟨gr, orr, rfl, f0⟩ := HC3.out y _ (rowG_at hy)
        have m1 : wr.cell? ⟨gr, orr + y, none⟩ = some (.int .i64 (T q y)) := nearv.cell_keep f0 hB
        have m2 := nearv.cell_keep HS3.out hB
        have HM := Lib.hid (mostL_succ (f := fun x => T q x.toNat) hb)
        by_cases hneg : T q y < 0
        · have HY := Lib.hid (worst_no (f := fun x => T q x.toNat) hb (by simpa using hneg))
          have dn : decide (T q y < 0) = true := by simpa using hneg
          have HBQ := Lib.hid (fun nq => below_drewN hB nq)
          clear hb d0 f0 hB
          go_wp2_with fail
          go_quiet (fail)
          go_wp2_with fail
          go_ret
          exact ⟨ret_int (HY.out.symm.trans HV.out.symm), HBQ.out _⟩
        · have HK : Hid (∀ i b, i < j + 1 → bl[i]? = some b → 0 ≤ T q b.toNat) := fun i z hi hz => by
            by_cases e : i = j
            · subst e; rw [hb] at hz; cases hz; simp; omega
            · exact hok.out i z (by omega) hz
          have dn : decide (T q y < 0) = false := by simpa using hneg
          have HMX := Lib.hid (fun (W : World) => l1Most_any (mostL (fun x => T q x.toNat) (bl.take j)) (T q y) W)
          have HBQ := Lib.hid (fun nq => below_drewN hB nq)
          simp only [Int.toNat_natCast] at HM
          clear hb d0 f0 hok hB
          go_wp2_with fail
          go_quiet (fail)
          go_wp2_with fail
          have m0' : (wr.drewN nq).cell? _ = _ := m0
          have m1' : (wr.drewN nq).cell? _ = _ := m1
          have m2' : (wr.drewN nq).cell? _ = _ := m2
          have HB5 := Lib.hid (HBQ.out nq)
          clear m0 m1 m2 HBQ
          generalize wr.drewN nq = w5 at *
          have HBQ := Lib.hid (fun nq => below_drewN HB5.out nq)
          go_quiet ((go_at_call 100; exact quiet_left (HMX.out _)))
          go_wp2_with fail
          go_roundg gg
          case measure => omega
          case rel => exact ⟨j + 1, by omega, by go_num, by rw [HM.out], HK, HBQ.out _⟩
end Go.Proofs.Ytjcnngnahijceaa.lists
