/- The time behind a move of the cops, and the move that they look for: plain mathematics. -/
import Derived.Test.YtphlpipbhaiijaaTimeL
import Derived.Test.YtphlpipbhaiijaaGameM
import Derived.Test.YtphlpipbhaiijaaWords
import Derived.Test.YtphlpipbhaiijaaProg
import Derived.WalkLawsBesides
import Derived.WalkSpells
import Derived.IntWalk
import Derived.Handy
import Derived.Test.YtphlpipbhaiijaaBall
import Derived.Test.YtphlpipbhaiijaaGridR
import Derived.Test.YtphlpipbhaiijaaNearV
import Derived.Deep.DeepCutAuto
import Derived.BigQuiet
import Derived.StillTailTactics
import Derived.Test.YtphlpipbhaiijaaTimeT
import Derived.Test.YtphlpipbhaiijaaGridW
import Derived.Test.YtphlpipbhaiijaaGridL
import Derived.Test.YtphlpipbhaiijaaGameN
import Derived.Test.YtphlpipbhaiijaaV02
import Derived.Deep.RegionHeld3
import Derived.Test.YtphlpipbhaiijaaV03
import Derived.Deep.QuietTactic
import Derived.Test.YtphlpipbhaiijaaOwn
import Derived.Test.YtphlpipbhaiijaaRows
import Derived.ProofKit
import Derived.OpenShut
import Derived.ChangeOld
import Derived.Carry
namespace Go.Proofs.Ytphlpipbhaiijaa.times
open Go.RowKit P2 words fns sets covs
set_option linter.unusedVariables false

/-- the time behind a move of the cops to q -/
def afterG (G : Game) (T : Nat → Nat → Int) (l : List Ed) (q r : Nat) : Int := if G.tk q r = true then 0 else worstL (fun x => T q x.toNat) (ballL l G.n r)
theorem after_one (l : List Ed) (n : Nat) (T : Nat → Nat → Int) (q r : Nat) : afterG (one l n) T l q r = afterV T (ballL l n) q r := by
  unfold afterG afterV
  refine if_cong ?_
  show (q == r) = true ↔ q = r
  simp
theorem stable_soon (G : Game) : ∃ t, t ≤ G.P * G.n ∧ Stable G t := by
  apply Classical.byContradiction
  intro hn
  have h : ∀ t, t ≤ G.P * G.n + 1 → t ≤ cnt G t := by
    intro t
    induction t with
    | zero => intro _; omega
    | succ t ih =>
      intro ht
      have h1 := ih (by omega)
      have h2 := cnt_grow (G := G) (t := t) (fun hs => hn ⟨t, by omega, hs⟩)
      omega
  have h1 := h _ (Nat.le_refl _)
  have h2 := cnt_le G (G.P * G.n + 1)
  omega
theorem tms_le {G : Game} {p r : Nat} (hp : p < G.P) (hr : r < G.n) : tms G p r ≤ ((G.P * G.n : Nat) : Int) := by
  obtain ⟨t, h1, h2⟩ := stable_soon G
  rw [tms_eq h2 hp hr]
  have := (tm_small (G := G) t p r).2
  omega
theorem tm_first {G : Game} {j p r : Nat} (h : win G j p r = true) : ∀ i, tmTo G (j + i) p r ≤ j
  | 0 => (tm_in h).2.1
  | i + 1 => by
    show tmTo G (j + i + 1) p r ≤ j
    rw [tm_old (win_add h i)]
    exact tm_first h i
/-- there is a move with one less -/
theorem step_down {G : Game} {l : List Ed} (hb : G.ball = ballB l) {p r : Nat} (hp : p < G.P) (hr : r < G.n) (h : 1 ≤ tms G p r) : ∃ q, q < G.P ∧ G.mv p q = true ∧ afterG G (tms G) l q r = tms G p r - 1 := by
  obtain ⟨s, -, hs⟩ := stable_soon G
  have hT : ∀ p r, p < G.P → r < G.n → tms G p r = tmTo G s p r := fun p r hp hr => tms_eq hs hp hr
  rw [hT p r hp hr] at h ⊢
  obtain ⟨t, ht⟩ : ∃ t : Nat, tmTo G s p r = ((t + 1 : Nat) : Int) := ⟨(tmTo G s p r).toNat - 1, by omega⟩
  have hw := tm_iff.1 (show 0 ≤ tmTo G s p r from by omega)
  have hin := tm_in hw
  have hts : t + 1 ≤ s := by have := hin.2.1; omega
  have hw1 := hin.2.2 (t + 1) (by omega) hts
  have hw0 : win G t p r = false := by
    cases hx : win G t p r with
    | false => rfl
    | true =>
      have := tm_first hx (s - t)
      rw [show t + (s - t) = s from by omega] at this
      omega
  rcases win_succ.1 hw1 with h1 | ⟨q, hq, hm, hl⟩
  · rw [hw0] at h1; cases h1
  · refine ⟨q, hq, hm, ?_⟩
    rw [ht]
    have hnot : ∀ j : Nat, j < t → lostOf G (win G j) q r = true → False := fun j hj hlj => by
      have h1 := win_succ.2 (.inr ⟨q, hq, hm, hlj⟩)
      have h2 := win_add h1 (t - (j + 1))
      rw [show j + 1 + (t - (j + 1)) = t from by omega, hw0] at h2
      cases h2
    unfold afterG
    by_cases htk : G.tk q r = true
    · rw [if_pos htk]
      by_cases h0 : t = 0
      · subst h0; rfl
      · exact (hnot 0 (by omega) (lost_iff.2 (.inl htk))).elim
    · rw [if_neg htk]
      have hall := (lost_iff.1 hl).resolve_left htk
      have hge : 0 ≤ worstL (fun x => tms G q x.toNat) (ballL l G.n r) := worst_iff.2 fun b hbm => by
        obtain ⟨x, hx, hxb, rfl⟩ := mem_nw.1 hbm
        rw [Int.toNat_natCast, hT q x hq hx]
        have h2 := win_add (hall x hx (by rw [hb]; exact hxb)) (s - t)
        rw [show t + (s - t) = s from by omega] at h2
        exact tm_iff.2 h2
      have hle : worstL (fun x => tms G q x.toNat) (ballL l G.n r) ≤ t := (worst_le hge).2 ⟨by omega, fun b hbm => by
        obtain ⟨x, hx, hxb, rfl⟩ := mem_nw.1 hbm
        rw [Int.toNat_natCast, hT q x hq hx]
        have h2 := tm_first (hall x hx (by rw [hb]; exact hxb)) (s - t)
        rwa [show t + (s - t) = s from by omega] at h2⟩
      apply Classical.byContradiction
      intro hne
      obtain ⟨j, hj⟩ : ∃ j : Nat, worstL (fun x => tms G q x.toNat) (ballL l G.n r) = j := ⟨(worstL (fun x => tms G q x.toNat) (ballL l G.n r)).toNat, by omega⟩
      refine hnot j (by omega) (lost_iff.2 (.inr fun x hx hxb => ?_))
      have hm2 : (x : Int) ∈ ballL l G.n r := mem_nw.2 ⟨x, hx, by rw [← hb]; exact hxb, rfl⟩
      have h4 := ((worst_le hge).1 (by rw [hj]; exact Int.le_refl _ : _ ≤ (j : Int))).2 _ hm2
      have h5 := worst_iff.1 hge _ hm2
      rw [Int.toNat_natCast, hT q x hq hx] at h4 h5
      exact (tm_in (tm_iff.1 h5)).2.2 j h4 (by omega)
/-- the move that the cops look for -/
def huntB (G : Game) (T : Nat → Nat → Int) (l : List Ed) (p r : Nat) (q : Int) : Bool := decide (afterG G T l q.toNat r = T p r - 1)
def huntL (G : Game) (T : Nat → Nat → Int) (l : List Ed) (mvs : List Int) (p r : Nat) : Int := (mvs.find? (huntB G T l p r)).getD 0
theorem hunt_is {G : Game} {l : List Ed} {ml : List (List Int)} {mvs : List Int} (hb : G.ball = ballB l) (hm : MovesOf G ml) {p r : Nat} (hp : p < G.P) (hr : r < G.n) (hml : ml[p]? = some mvs) (h : 1 ≤ tms G p r) :
    ∃ (k q : Nat), mvs[k]? = some (q : Int) ∧ huntL G (tms G) l mvs p r = (q : Int) ∧ q < G.P ∧ huntB G (tms G) l p r (q : Int) = true ∧ ∀ j z, j < k → mvs[j]? = some z → huntB G (tms G) l p r z = false := by
  obtain ⟨q0, h1, h2, h3⟩ := step_down hb hp hr h
  have hmv := hm.2 p mvs hml
  have hin : (q0 : Int) ∈ mvs := (hmv.2 q0 h1).1 h2
  have hs : (mvs.find? (huntB G (tms G) l p r)).isSome = true := by
    rw [List.find?_isSome]
    exact ⟨_, hin, by unfold huntB; rw [decide_eq_true_iff, Int.toNat_natCast]; exact h3⟩
  obtain ⟨y, hy⟩ := Option.isSome_iff_exists.1 hs
  obtain ⟨hpy, k, hk, hky, hno⟩ := List.find?_eq_some_iff_getElem.1 hy
  have hkq : mvs[k]? = some y := by rw [List.getElem?_eq_getElem hk, hky]
  have hyr := hmv.1 y (List.mem_of_getElem? hkq)
  refine ⟨k, y.toNat, ?_, ?_, by omega, ?_, fun j z hj hz => ?_⟩
  · rw [hkq]; congr 1; omega
  · unfold huntL; rw [hy]; show y = _; omega
  · rw [show ((y.toNat : Nat) : Int) = y from by omega]; exact hpy
  · have := hno j hj
    obtain ⟨hjl, rfl⟩ := List.getElem?_eq_some_iff.1 hz
    simpa using this
theorem afterG_iff {G : Game} {l : List Ed} (hb : G.ball = ballB l) {t q r : Nat} : 0 ≤ afterG G (tmTo G t) l q r ↔ lostOf G (win G t) q r = true := by
  rw [lost_iff]
  unfold afterG
  by_cases h : G.tk q r = true
  · rw [if_pos h]; exact ⟨fun _ => .inl h, fun _ => by omega⟩
  · rw [if_neg h, worst_iff]
    constructor
    · intro hh
      right
      intro x hx hxb
      exact tm_iff.1 (by have := hh (x : Int) (mem_nw.2 ⟨x, hx, by rw [← hb]; exact hxb, rfl⟩); simpa using this)
    · rintro (hh | hh)
      · exact absurd hh h
      · intro b hbm
        obtain ⟨x, hx, hxb, rfl⟩ := mem_nw.1 hbm
        simpa using tm_iff.2 (hh x hx (by rw [hb]; exact hxb))
/-- the next round: a move that leads on -/
theorem next_yes4 {G : Game} {l : List Ed} (hb : G.ball = ballB l) {t p q r : Nat} (hq : q < G.P) (hm : G.mv p q = true) (h1 : tmTo G t p r < 0) (h2 : 0 ≤ afterG G (tmTo G t) l q r) : tmTo G (t + 1) p r = ((t + 1 : Nat) : Int) ∧ win G t p r = false ∧ win G (t + 1) p r = true := by
  have hw := tm_lt.1 h1
  have hw1 := win_succ.2 (.inr ⟨q, hq, hm, (afterG_iff hb).1 h2⟩)
  exact ⟨tm_new hw hw1, hw, hw1⟩
theorem next_no4 {G : Game} {l : List Ed} (hb : G.ball = ballB l) {t p r : Nat} (h : 0 ≤ tmTo G t p r ∨ ∀ q, q < G.P → G.mv p q = true → afterG G (tmTo G t) l q r < 0) : tmTo G (t + 1) p r = tmTo G t p r ∧ (win G (t + 1) p r = true → win G t p r = true) := by
  by_cases h1 : 0 ≤ tmTo G t p r
  · have hw := tm_iff.1 h1
    exact ⟨tm_old hw, fun _ => hw⟩
  · have h2 := h.resolve_left h1
    have hw := tm_lt.1 (show tmTo G t p r < 0 by omega)
    have hw1 : win G (t + 1) p r = false := by
      cases hx : win G (t + 1) p r with
      | false => rfl
      | true =>
        rcases win_succ.1 hx with h3 | ⟨q, hq, hm, hl⟩
        · rw [hw] at h3; cases h3
        · have := (afterG_iff hb).2 hl
          have := h2 q hq hm
          omega
    rw [tm_neg hw1, tm_neg hw]
    exact ⟨rfl, fun hh => by rw [hw1] at hh; cases hh⟩
end Go.Proofs.Ytphlpipbhaiijaa.times

/- The contracts of the model's l1Least and l1Most. -/
namespace Go.Proofs.Ytphlpipbhaiijaa.minmax
open Go.RowKit P2 words

theorem l1Most_any (a b : Int) (w : World) : Calls Try.prog 66 #[.int .i64 a, .int .i64 b] w fun e w' => e = .returned (.int .i64 (max a b)) ∧ w = w' := by
  by_cases h : b < a
  · have hm : Hid (max a b = a) := Int.max_eq_left (by omega)
    go_enter Try.func66, Try.ntmps66
    go_wp2_with fail
    go_ret
    exact ⟨ret_int hm.out.symm, rfl⟩
  · have hm : Hid (max a b = b) := Int.max_eq_right (by omega)
    go_enter Try.func66, Try.ntmps66
    go_wp2_with fail
    go_ret
    exact ⟨ret_int hm.out.symm, rfl⟩
end Go.Proofs.Ytphlpipbhaiijaa.minmax

/- The contracts of the model's l3Worst, l3After and l3Best. -/
namespace Go.Proofs.Ytphlpipbhaiijaa.times
open Go.RowKit P2 words edges ints good adjs fns sets rets covs balls minmax gridr
set_option linter.unusedVariables false

def rowL (n : Nat) (f : Nat → Int) : List Int := (List.range n).map f
def tabL (n : Nat) (T : Nat → Nat → Int) : List (List Int) := (List.range n).map fun p => rowL n (T p)
theorem rowL_len (n : Nat) (f : Nat → Int) : (rowL n f).length = n := by simp [rowL]
theorem rowL_at {n k : Nat} {f : Nat → Int} (h : k < n) : (rowL n f)[k]? = some (f k) := by simp [rowL, h]
theorem tabL_len (n : Nat) (T : Nat → Nat → Int) : (tabL n T).length = n := by simp [tabL]
theorem tabL_at {n k : Nat} {T : Nat → Nat → Int} (h : k < n) : (tabL n T)[k]? = some (rowL n (T k)) := by simp [tabL, h]
theorem ballL_mem {l : List Ed} {n x k : Nat} {b : Int} (h : (ballL l n x)[k]? = some b) : ∃ y : Nat, b = (y : Int) ∧ y < n ∧ ballB l x y = true := by
  obtain ⟨y, h1, h2, h3⟩ := mem_nw.1 (List.mem_of_getElem? h)
  exact ⟨y, h3, h1, h2⟩

end Go.Proofs.Ytphlpipbhaiijaa.times

/- The contract of the model's l3Times. -/
namespace Go.Proofs.Ytphlpipbhaiijaa.times
open Go.RowKit P2 words edges ints owns good adjs fns sets rets covs balls minmax gridr grid gridl
set_option linter.unusedVariables false

/-- so many rows of a table -/
def tabT (n : Nat) (T : Nat → Nat → Int) (k : Nat) : List (List Int) := (List.range k).map fun p => rowL n (T p)
theorem tabT_len (n : Nat) (T : Nat → Nat → Int) (k : Nat) : (tabT n T k).length = k := by simp [tabT]
theorem tabT_succ (n : Nat) (T : Nat → Nat → Int) (k : Nat) : tabT n T (k + 1) = tabT n T k ++ [rowL n (T k)] := by simp [tabT, List.range_succ]
theorem tabT_all (n : Nat) (T : Nat → Nat → Int) : tabT n T n = tabL n T := rfl
theorem rowL_succ (f : Nat → Int) (r : Nat) : rowL (r + 1) f = rowL r f ++ [f r] := by simp [rowL, List.range_succ]
def T0 (l : List Ed) (n : Nat) : Nat → Nat → Int := tmTo (one l n) 0
theorem T0_at (l : List Ed) (n c r : Nat) : T0 l n c r = if ((c : Int) == (r : Int)) = true then 0 else -1 := by
  show (if (c == r) = true then (0 : Int) else -1) = _
  by_cases h : c = r
  · subst h; simp
  · rw [if_neg (by simpa using h), if_neg (by simp; omega)]
theorem tabL_congr {n : Nat} {T U : Nat → Nat → Int} (h : ∀ p r, p < n → r < n → T p r = U p r) : tabL n T = tabL n U := by
  unfold tabL rowL
  refine List.map_congr_left fun p hp => List.map_congr_left fun r hr => h p r (List.mem_range.1 hp) (List.mem_range.1 hr)
def mixL (n : Nat) (T U : Nat → Int) (r : Nat) : List Int := (List.range n).map fun x => if x < r then U x else T x
theorem mixL_len (n : Nat) (T U : Nat → Int) (r : Nat) : (mixL n T U r).length = n := by simp [mixL]
theorem mixL_zero (n : Nat) (T U : Nat → Int) : mixL n T U 0 = rowL n T := by simp [mixL, rowL]
theorem mixL_all (n : Nat) (T U : Nat → Int) : mixL n T U n = rowL n U := by
  unfold mixL rowL
  exact List.map_congr_left fun x hx => if_pos (List.mem_range.1 hx)
theorem mixL_at {n r : Nat} {T U : Nat → Int} (h : r < n) : (mixL n T U r)[r]? = some (T r) := by simp [mixL, h]
theorem mixL_put {n r : Nat} {T U : Nat → Int} (h : r < n) : (mixL n T U r).set r (U r) = mixL n T U (r + 1) := by
  refine List.ext_getElem? fun x => ?_
  by_cases e : x = r
  · subst e
    rw [List.getElem?_set_self (by rw [mixL_len]; exact h)]
    simp [mixL, h]
  · rw [List.getElem?_set_ne (fun hh => e hh.symm)]
    by_cases hx : x < n
    · simp only [mixL, List.getElem?_map, List.getElem?_range hx, Option.map_some]
      by_cases h1 : x < r
      · rw [if_pos h1, if_pos (by omega)]
      · rw [if_neg h1, if_neg (by omega)]
    · rw [List.getElem?_eq_none (by rw [mixL_len]; omega), List.getElem?_eq_none (by rw [mixL_len]; omega)]
theorem mixL_keep {n r : Nat} {T U : Nat → Int} (h : r < n) (e : U r = T r) : mixL n T U (r + 1) = mixL n T U r := by
  rw [← mixL_put h, e]
  refine List.ext_getElem? fun x => ?_
  by_cases ex : x = r
  · subst ex
    rw [List.getElem?_set_self (by rw [mixL_len]; exact h), mixL_at h]
  · rw [List.getElem?_set_ne (fun hh => ex hh.symm)]
theorem grid_cell {w : World} {B i n c : Nat} {A : Option Addr} {us : List Value} {u : Value} (h : w.ownsRow B 25 1 (.slice A n c) n us) (hu : us[i]? = some u) :
    ∃ g, A = some ⟨g, 0, none⟩ ∧ w.cell? ⟨g, i, none⟩ = some u ∧ B ≤ g ∧ g < w.heap.size := by
  have hi := (List.getElem?_eq_some_iff.1 hu).1
  have hl := h.1
  rcases h.2 with ⟨hf, _⟩ | ⟨g, cap, cur, hf, _⟩
  · have := congrArg (fun v => match v with | .slice _ n _ => n | _ => 0) hf
    simp at this
    omega
  · obtain ⟨rfl, rfl⟩ : A = some ⟨g, 0, none⟩ ∧ c = cap := by simpa using hf
    have := h.cellAt i (by omega)
    rw [hu] at this
    exact ⟨g, rfl, this, (h.lt g rfl).1, (h.lt g rfl).2⟩
theorem row_tab {w : World} {B n p : Nat} {A : Option Addr} {c : Nat} {us : List Value} {T : Nat → Nat → Int} (h : OwnG w B (.slice A (tabL n T).length c) us (tabL n T)) (hp : p < n) :
    ∃ g A5 c5, A = some ⟨g, 0, none⟩ ∧ w.cell? ⟨g, p, none⟩ = some (.slice A5 (rowL n (T p)).length c5) ∧ Ints w (.slice A5 (rowL n (T p)).length c5) (rowL n (T p)) := by
  obtain ⟨u5, hu5, o5⟩ := h.row (tabL_at (T := T) hp)
  obtain ⟨A5, c5, rfl⟩ := own_form o5
  obtain ⟨g, rfl, f5, _⟩ := grid_cell h.1 hu5
  exact ⟨g, A5, c5, rfl, f5, Reads.of_own o5⟩
theorem cells_set4 (D : List Int) (y : Nat) (u : Int) : (cellsI D).set y (.int .i64 u) = cellsI (D.set y u) := by simp [cellsI, List.map_set]
end Go.Proofs.Ytphlpipbhaiijaa.times

/- The game as the model has it, and the contract of the model's l4After. -/
namespace Go.Proofs.Ytphlpipbhaiijaa.lists
open Go.RowKit P2 words edges ints good adjs fns sets rets apps gridr grid trip covs bitsI times mids balls minmax
set_option linter.unusedVariables false

def ballG (l : List Ed) (n : Nat) : List (List Int) := (List.range n).map (ballL l n)
theorem ballG_len (l : List Ed) (n : Nat) : (ballG l n).length = n := by simp [ballG]
theorem ballG_at {l : List Ed} {n x : Nat} (h : x < n) : (ballG l n)[x]? = some (ballL l n x) := by simp [ballG, h]
theorem mem_cfg {n k p r : Nat} : decide ((r : Int) ∈ castL (cfg n k p)) = decide (r ∈ cfg n k p) := by
  rw [decide_eq_decide]
  constructor
  · intro h
    obtain ⟨y, hy, e⟩ := List.mem_map.1 h
    have : y = r := by omega
    subst this; exact hy
  · exact fun h => List.mem_map.2 ⟨r, h, rfl⟩
/-- the game as the model has it -/
structure HS (w : World) (l : List Ed) (n k : Nat) (fv mv bv : Value) (uf um ub : List Value) : Prop where
  cfgs : ReadsG w fv uf (rowsN (listsN n k 0))
  moves : ReadsG w mv um (mvG l n k)
  balls : ReadsG w bv ub (ballG l n)
theorem HS.below {w w' : World} {l : List Ed} {n k : Nat} {fv mv bv : Value} {uf um ub : List Value} (h : HS w l n k fv mv bv uf um ub) (hb : Below w.heap.size w w') : HS w' l n k fv mv bv uf um ub := ⟨h.cfgs.below hb, h.moves.below hb, h.balls.below hb⟩
theorem blk3 {w : World} {g : Nat} {t : TypeId} {a b c : Value} (h : Blk w g t #[a, b, c]) : w.cell? ⟨g, 0, none⟩ = some a ∧ w.cell? ⟨g, 1, none⟩ = some b ∧ w.cell? ⟨g, 2, none⟩ = some c := ⟨h.cell 0, h.cell 1, h.cell 2⟩
set_option maxHeartbeats 4000000 in
set_option maxRecDepth 100000 in
theorem l4After_any (n k q r : Nat) (T : Nat → Nat → Int) (fv mv bv t : Value) (uf um ub us : List Value) (l : List Ed) (w : World) (h : HS w l n k fv mv bv uf um ub) (ht : ReadsG w t us (gridG (gameN l n k).P n T)) (hn : n ≤ 8) (hk : k ≤ 3) (hq : q < (gameN l n k).P) (hr : r < n) :
    Calls Try.prog 150 #[.agg #[fv, mv, bv], t, .int .i64 (q : Int), .int .i64 (r : Int)] w fun e w' => e = .returned (.int .i64 (afterG (gameN l n k) T l q r)) ∧ Below w.heap.size w w' := by
  obtain ⟨Af, cf, rfl, -⟩ := h.cfgs.1
  obtain ⟨Am, cm, rfl, -⟩ := h.moves.1
  obtain ⟨Ab, cb, rfl, -⟩ := h.balls.1
  obtain ⟨At, ct, rfl, -⟩ := ht.1
  rw [rowsN_len, mvG_len, ballG_len, gridG_len] at *
  obtain ⟨u1, g1, o1, hu1, rfl, c1, hr1⟩ := h.cfgs.row (rowsN_at (cfg_at (n := n) (k := k) (p := q) hq))
  obtain ⟨A1, k1, rfl, -⟩ := hr1.form
  obtain ⟨u2, g2, o2, hu2, rfl, c2, hr2⟩ := h.balls.row (ballG_at (l := l) hr)
  obtain ⟨A2, k2, rfl, hc2⟩ := hr2.form
  obtain ⟨u3, g3, o3, hu3, rfl, c3, hr3⟩ := ht.row (gridG_at (n := n) (T := T) hq)
  obtain ⟨A3, k3, rfl, hc3⟩ := hr3.form
  rw [rowG_len] at c3
  have hPl : (gameN l n k).P = (listsN n k 0).length := rfl
  have HPL := Lib.hid hPl
  have hcl : (castL (cfg n k q)).length ≤ 1048576 := by rw [castL_len, cfg_len hq]; omega
  have b0 : Below w.heap.size w (w.alloc (.cells #[.slice (some ⟨g1, o1, none⟩) (listsN n k 0).length cf, .slice Am (gameN l n k).P cm, .slice (some ⟨g2, o2, none⟩) n cb] 89)) := (Below.refl _ _).alloc (Nat.le_refl _) _
  have g0 := Blk.new w 89 #[.slice (some ⟨g1, o1, none⟩) (listsN n k 0).length cf, .slice Am (gameN l n k).P cm, .slice (some ⟨g2, o2, none⟩) n cb]
  obtain ⟨p0, p1, p2⟩ := blk3 g0
  have HAS := Lib.hid (l1Has_any _ (castL (cfg n k q)) (r : Int) _ (hr1.below b0) hcl)
  rw [mem_cfg] at HAS
  have HB0 := Lib.hid b0
  have HC2 := Lib.hid hc2
  have HC3 := Lib.hid hc3
  have s1 := nearv.cell_keep c1 b0
  have s2 := nearv.cell_keep c2 b0
  have s3 := nearv.cell_keep c3 b0
  have HS3 := Lib.hid c3
  have hq1 : (q : Int) < ((listsN n k 0).length : Int) := by omega
  have hq2 : (q : Int) < ((gameN l n k).P : Int) := by omega
  have hrn : (r : Int) < (n : Int) := by omega
  have hbl := nw_len (ballB l r) n
  have hbe : nw (ballB l r) n = ballL l n r := rfl
  rw [hbe] at hbl
  have HBL := Lib.hid (fun j b hb => ballL_mem (l := l) (n := n) (x := r) (k := j) (b := b) hb)
  have hrl : (rowG n (T q)).length = n := rowG_len n (T q)
  have HRL := Lib.hid hrl
  have HAG := Lib.hid (show afterG (gameN l n k) T l q r = if decide (r ∈ cfg n k q) = true then 0 else worstL (fun x => T q x.toNat) (ballL l n r) from rfl)
  clear h ht hu1 hu2 hu3 hr1 hr2 hr3 hc2 hc3 c1 c2 c3 b0 g0 hPl hrl hbe hcl
  cases htk : decide (r ∈ cfg n k q) with
  | true =>
    have HV : Hid (afterG (gameN l n k) T l q r = 0) := by show _ = _; rw [HAG.out, htk]; rfl
    rw [htk] at HAS
    clear htk
    go_enter Try.func150, Try.ntmps150
    go_wp2_with fail
    refine HAS.out.mono ?_
    rintro e w' ⟨rfl, rfl⟩
    go_wp2_with fail
    go_ret
    exact ⟨ret_int HV.out.symm, HB0.out⟩
  | false =>
    have HV : Hid (afterG (gameN l n k) T l q r = worstL (fun x => T q x.toNat) (ballL l n r)) := by show _ = _; rw [HAG.out, htk]; rfl
    rw [htk] at HAS
    clear htk
    generalize ballL l n r = bl at *
    go_enter Try.func150, Try.ntmps150
    go_wp2_with fail
    refine HAS.out.mono ?_
    rintro e w' ⟨rfl, rfl⟩
    go_wp2_with fail
    go_quiet (fail)
    go_wp2_with fail
    have HB1 := Lib.hid (below_drewN HB0.out nq)
    clear p0 p1 p2 s1 s2 s3
    go_loopg [9, 11] bl.length (fun g m i wr => ∃ j : Nat, j + g = bl.length ∧ i = .int .i64 (j : Int) ∧ m = .int .i64 (mostL (fun x => T q x.toNat) (bl.take j)) ∧ Hid (∀ i b, i < j → bl[i]? = some b → 0 ≤ T q b.toNat) ∧ Below w.heap.size w wr)
    case atStart => exact ⟨0, by omega, rfl, rfl, fun i b h => by omega, HB1.out⟩
    case round =>
      clear HB1
      obtain ⟨j, hjg, rfl, rfl, hok, hB⟩ := hrel
      cases gk with
      | zero =>
        obtain rfl : j = bl.length := by omega
        have HY : Hid (worstL (fun x => T q x.toNat) bl = mostL (fun x => T q x.toNat) (bl.take bl.length)) := by show _ = _; rw [List.take_length]; exact worst_yes hok.out
        go_wp2_with fail
        go_ret
        exact ⟨ret_int (HY.out.symm.trans HV.out.symm), hB⟩
      | succ gg =>
        have hlt : j < bl.length := by omega
        have hlt' : (j : Int) < (bl.length : Int) := by omega
        obtain ⟨b, hb⟩ : ∃ b, bl[j]? = some b := ⟨_, List.getElem?_eq_getElem hlt⟩
        obtain ⟨ga, oa, rfl, d0⟩ := HC2.out j b hb
        have m0 : wr.cell? ⟨ga, oa + j, none⟩ = some (.int .i64 b) := nearv.cell_keep d0 hB
        obtain ⟨y, rfl, hy, -⟩ := HBL.out j b hb
        have hy9 : (y : Int) < (n : Int) := by omega
        have hy0 : (0 : Int) ≤ (y : Int) := by omega
        obtain ⟨gr, orr, rfl, f0⟩ := HC3.out y _ (rowG_at hy)
        have m1 : wr.cell? ⟨gr, orr + y, none⟩ = some (.int .i64 (T q y)) := nearv.cell_keep f0 hB
        have m2 := nearv.cell_keep HS3.out hB
        have HM := Lib.hid (mostL_succ (f := fun x => T q x.toNat) hb)
        by_cases hneg : T q y < 0
        · have HY := Lib.hid (worst_no (f := fun x => T q x.toNat) hb (by simpa using hneg))
          have dn : decide (T q y < 0) = true := by simpa using hneg
          have HBQ := Lib.hid (fun nq => below_drewN hB nq)
          clear hb d0 f0 hB
          go_wp2_with fail
          go_quiet (fail)
          go_wp2_with fail
          go_ret
          exact ⟨ret_int (HY.out.symm.trans HV.out.symm), HBQ.out _⟩
        · have HK : Hid (∀ i b, i < j + 1 → bl[i]? = some b → 0 ≤ T q b.toNat) := fun i z hi hz => by
            by_cases e : i = j
            · subst e; rw [hb] at hz; cases hz; simp; omega
            · exact hok.out i z (by omega) hz
          have dn : decide (T q y < 0) = false := by simpa using hneg
          have HMX := Lib.hid (fun (W : World) => l1Most_any (mostL (fun x => T q x.toNat) (bl.take j)) (T q y) W)
          have HBQ := Lib.hid (fun nq => below_drewN hB nq)
          simp only [Int.toNat_natCast] at HM
          clear hb d0 f0 hok hB
          go_wp2_with fail
          go_quiet (fail)
          go_wp2_with fail
          have m0' : (wr.drewN nq).cell? _ = _ := m0
          have m1' : (wr.drewN nq).cell? _ = _ := m1
          have m2' : (wr.drewN nq).cell? _ = _ := m2
          have HB5 := Lib.hid (HBQ.out nq)
          clear m0 m1 m2 HBQ
          generalize wr.drewN nq = w5 at *
          have HBQ := Lib.hid (fun nq => below_drewN HB5.out nq)
          go_quiet ((go_at_call 66; exact quiet_left (HMX.out _)))
          go_wp2_with fail
          go_roundg gg
          case measure => omega
          case rel => exact ⟨j + 1, by omega, by go_num, by rw [HM.out], HK, HBQ.out _⟩
end Go.Proofs.Ytphlpipbhaiijaa.lists

/- The contract of the model's l4Make. -/
namespace Go.Proofs.Ytphlpipbhaiijaa.lists
open Go.RowKit P2 words edges ints good adjs fns sets rets apps gridr grid trip covs bitsI times mids
set_option linter.unusedVariables false

/-- the places of the lists to which the cops of place p can move -/
def plcN (l : List Ed) (n k p : Nat) : List Nat := (List.range (listsN n k 0).length).filter ((gameN l n k).mv p)
theorem plcN_cast (l : List Ed) (n k p : Nat) : castL (plcN l n k p) = mvN l n k p := rfl
theorem plcN_moves {l : List Ed} {n k p : Nat} (h : p < (listsN n k 0).length) : movesN (ballB l) n (cfg n k p) = (plcN l n k p).map (cfg n k) := by
  rw [moves_map, cfg_len h]; rfl
theorem plcN_lt {l : List Ed} {n k p q : Nat} (h : q ∈ plcN l n k p) : q < (listsN n k 0).length := List.mem_range.1 (List.mem_filter.1 h).1
theorem plcN_len (l : List Ed) (n k p : Nat) : (plcN l n k p).length ≤ (listsN n k 0).length := by
  have := List.length_filter_le ((gameN l n k).mv p) (List.range (listsN n k 0).length); rw [List.length_range] at this; exact this
def mvK4 (l : List Ed) (n k p : Nat) : List (List Int) := (List.range p).map (mvN l n k)
theorem mvK4_len (l : List Ed) (n k p : Nat) : (mvK4 l n k p).length = p := by simp [mvK4]
theorem mvK4_succ (l : List Ed) (n k p : Nat) : mvK4 l n k (p + 1) = mvK4 l n k p ++ [mvN l n k p] := by simp [mvK4, List.range_succ]
def balK (l : List Ed) (n x : Nat) : List (List Int) := (List.range x).map (ballL l n)
theorem balK_len (l : List Ed) (n x : Nat) : (balK l n x).length = x := by simp [balK]
theorem balK_succ (l : List Ed) (n x : Nat) : balK l n (x + 1) = balK l n x ++ [ballL l n x] := by simp [balK, List.range_succ]
def CutK (w wx : World) (l : List Ed) (n k p : Nat) (lv nv : Value) : Prop :=
  ∃ A c us b, lv = .slice A (plcN l n k p).length c ∧ nv = .slice (some ⟨b, 0, none⟩) 0 0 ∧ OwnG wx w.heap.size (.slice A (plcN l n k p).length c) us (rowsN ((plcN l n k p).map (cfg n k))) ∧ wx.ownsRow w.heap.size 3 1 nv 0 [] ∧ (∀ (i : Nat) u d, us[i]? = some u → u.ownBlock = some d → d ≠ b) ∧ Below w.heap.size w wx
theorem OwnG.kept_r {w w' : World} {B B' m : Nat} {v v' : Value} {us ys : List Value} {rows : List (List Int)} (h : OwnG w B v us rows) (h' : w.ownsRow B' 3 1 v' m ys) (hne : ∀ (i : Nat) u b, us[i]? = some u → u.ownBlock = some b → v'.ownBlock ≠ some b) (hg : w.grownBy w' v'.ownBlock) : OwnG w' B v us rows :=
  ⟨own_kept h.1 h' (by decide) hg, fun i u r hu hr => (h.2.1 i u r hu hr).kept hg (by
    cases hv : u.ownBlock with
    | none => exact .inl rfl
    | some b => exact .inr (fun e => hne i u b hu hv e.symm)), h.2.2⟩
theorem OwnG.lt {w : World} {B : Nat} {v : Value} {us : List Value} {rows : List (List Int)} (h : OwnG w B v us rows) : ∀ (i : Nat) u d, us[i]? = some u → u.ownBlock = some d → B ≤ d ∧ d < w.heap.size := fun i u d hu hd => by
  obtain ⟨r, hr⟩ : ∃ r, rows[i]? = some r := ⟨_, List.getElem?_eq_getElem (by have := (List.getElem?_eq_some_iff.1 hu).1; have := h.len; omega)⟩
  exact (h.2.1 i u r hu hr).lt d hd
theorem OwnG.kept_g {w w' : World} {B B' m : Nat} {v v' : Value} {us ys : List Value} {rows : List (List Int)} (h : OwnG w B v us rows) (h' : w.ownsRow B' 25 1 v' m ys) (hv : ∀ b, v.ownBlock = some b → v'.ownBlock ≠ some b) (hg : w.grownBy w' v'.ownBlock) : OwnG w' B v us rows :=
  ⟨h.1.kept hg (by
    cases hb : v.ownBlock with
    | none => exact .inl rfl
    | some b => exact .inr (fun e => hv b hb e.symm)), fun i u r hu hr => own_kept (h.2.1 i u r hu hr) h' (by decide) hg, h.2.2⟩
theorem fin_game {w w3 : World} {R B3 B4 B5 : Nat} {fv mv bv : Value} {uf um ub : List Value} {rf rm rb : List (List Int)} (hr : Blk w3 R 89 #[.slice none 0 0, .slice none 0 0, .slice none 0 0])
    (hf : OwnG w3 B3 fv uf rf) (hm : OwnG w3 B4 mv um rm) (hb : OwnG w3 B5 bv ub rb) (hB : Below w.heap.size w w3) (hR : w.heap.size ≤ R) :
    ∃ w5, w5 = (((w3.setCell ⟨R, 0, none⟩ fv).setCell ⟨R, 1, none⟩ mv).setCell ⟨R, 2, none⟩ bv) ∧ Blk w5 R 89 #[fv, mv, bv] ∧ OwnG w5 B3 fv uf rf ∧ OwnG w5 B4 mv um rm ∧ OwnG w5 B5 bv ub rb ∧ Below w.heap.size w w5 := by
  have k5 : w3.grownBy (((w3.setCell ⟨R, 0, none⟩ fv).setCell ⟨R, 1, none⟩ mv).setCell ⟨R, 2, none⟩ bv) (some R) := gset (gset (gset1 w3 R 0 _) 1 _) 2 _
  have h1 := ((hr.set_ 0 fv).set_ 1 mv).set_ 2 bv
  exact ⟨_, rfl, by simpa using h1, OwnG.kept_c hf hr (by decide) (by decide) k5, OwnG.kept_c hm hr (by decide) (by decide) k5, OwnG.kept_c hb hr (by decide) (by decide) k5, ((hB.setCell hR _).setCell hR _).setCell hR _⟩
set_option maxHeartbeats 16000000 in
set_option maxRecDepth 100000 in
theorem l4Make_any (n k : Nat) (v : Value) (l : List Ed) (w : World) (h : Edges w v l) (hl : l.length ≤ 1048576) (hg : P2.Good (n : Int) l) (hn : n ≤ 8) (hk : k ≤ 3) :
    Calls Try.prog 91 #[.agg #[.int .i64 (n : Int), v], .int .i64 (k : Int)] w fun e w' => ∃ fv mv bv uf um ub, e = .returned (.agg #[fv, mv, bv]) ∧ HS w' l n k fv mv bv uf um ub ∧ Below w.heap.size w w' := by
  obtain ⟨i0, hi, hz0, hz1, hz2⟩ := info_parts infoInt
  obtain ⟨i1, hi1, hy0, hy1, hy2⟩ := info_parts infoRow
  obtain ⟨A, c, rfl, -⟩ := h.form
  have H := Lib.hid h
  have HGD := Lib.hid hg
  have hP := game_small hn hk
  have b0 : Below w.heap.size w ((w.alloc (.cells #[.int .i64 (n : Int), .slice A l.length c] 29)).alloc (.cells #[.slice none 0 0, .slice none 0 0, .slice none 0 0] 89)) := ((Below.refl _ _).alloc (Nat.le_refl _) _).alloc (by simp) _
  have g0 := (Blk.new w 29 #[.int .i64 (n : Int), .slice A l.length c]).alloc (.cells #[.slice none 0 0, .slice none 0 0, .slice none 0 0] 89)
  have r0 := Blk.new (w.alloc (.cells #[.int .i64 (n : Int), .slice A l.length c] 29)) 89 #[.slice none 0 0, .slice none 0 0, .slice none 0 0]
  rw [World.size_alloc] at r0
  obtain ⟨p0, p1, -, -⟩ := g0.two
  have HCF := Lib.hid (fun (W : World) => l4Configs_any n k hn hk W)
  clear h hg
  go_enter Try.func91, Try.ntmps91
  go_wp2_with fail
  refine (HCF.out _).mono ?_
  rintro e w1 ⟨A1, c1, uf, rfl, o1, b1⟩
  have HRL := Lib.hid (rowsN_len (listsN n k 0))
  rw [HRL.out] at o1 ⊢
  have HE1 := Lib.hid (btrans b0 b1)
  have HG1 := Lib.hid (g0.below b1 g0.lt)
  have HR1 := Lib.hid (r0.below b1 r0.lt)
  have HLO := Lib.hid (OwnG.base o1 (show w.heap.size ≤ _ from b0.size))
  have hlt1 := HR1.out.lt
  have HBO := Lib.hid (Blk.new w1 89 #[.slice A1 (listsN n k 0).length c1, .slice none 0 0, .slice none 0 0])
  have HB2 := Lib.hid ((Below.refl w1.heap.size w1).alloc (Nat.le_refl _) (.cells #[.slice A1 (listsN n k 0).length c1, .slice none 0 0, .slice none 0 0] 89))
  clear b0 g0 r0 b1 o1 p0 p1 HCF
  go_wp2_with fail
  go_loopg [6] (listsN n k 0).length (fun g iv wr => ∃ (p : Nat) (mv : Value) (um : List Value), p + g = (listsN n k 0).length ∧ iv = .int .i64 (p : Int) ∧ Blk wr w1.heap.size 89 #[.slice A1 (listsN n k 0).length c1, mv, .slice none 0 0] ∧ OwnG wr w1.heap.size mv um (mvK4 l n k p) ∧ Below w1.heap.size w1 wr)
  case atStart => exact ⟨0, _, [], by omega, rfl, HBO.out, OwnG.nil _ _, HB2.out⟩
  case round =>
    clear HBO HB2
    obtain ⟨p, mv, um, hpg, rfl, hbO, hM, hB⟩ := hrel
    obtain ⟨wo, hwo⟩ : ∃ wo, wo = wr := ⟨_, rfl⟩
    subst hwo
    obtain ⟨x0, x1, x2⟩ := blk3 hbO
    obtain ⟨Am, cm, rfl⟩ := own_form hM.1
    rw [mvK4_len] at *
    cases gk with
    | zero =>
      obtain rfl : p = (listsN n k 0).length := by omega
      have hGB := HG1.out.below hB HG1.out.lt
      obtain ⟨y0, y1, -, -⟩ := hGB.two
      have HBO := Lib.hid hbO
      have HM := Lib.hid hM
      have HB := Lib.hid hB
      have HGB := Lib.hid hGB
      have hszo := hB.size
      have HMLT : Hid (∀ b, (Value.slice Am (listsN n k 0).length cm).ownBlock = some b → b < wo.heap.size) := fun b hb => (hM.1.lt b hb).2
      clear hbO hM hB hGB
      go_wp2_with fail
      go_loopg [10] n (fun g iv wr9 => ∃ (x : Nat) (bv : Value) (ub : List Value), x + g = n ∧ iv = .int .i64 (x : Int) ∧ Blk wr9 w1.heap.size 89 #[.slice A1 (listsN n k 0).length c1, .slice Am (listsN n k 0).length cm, bv] ∧ OwnG wr9 wo.heap.size bv ub (balK l n x) ∧ OwnG wr9 w1.heap.size (.slice Am (listsN n k 0).length cm) um (mvK4 l n k (listsN n k 0).length) ∧ Blk wr9 w.heap.size 29 #[.int .i64 (n : Int), .slice A l.length c] ∧ Below w1.heap.size w1 wr9 ∧ wo.heap.size ≤ wr9.heap.size)
      case atStart => exact ⟨0, _, [], by omega, rfl, HBO.out, OwnG.nil _ _, HM.out, HGB.out, HB.out, Nat.le_refl _⟩
      case round =>
        obtain ⟨x, bv, ub, hxg, rfl, hbO, hV, hM, hGB, hB, hwo⟩ := hrel
        clear HBO HM HB HGB y0 y1
        obtain ⟨x0, x1, x2⟩ := blk3 hbO
        obtain ⟨y0, y1, -, -⟩ := hGB.two
        obtain ⟨Ab, cb, rfl⟩ := own_form hV.1
        rw [balK_len] at *
        have HBO := Lib.hid hbO
        have HV := Lib.hid hV
        have HM := Lib.hid hM
        have HGB := Lib.hid hGB
        have HB := Lib.hid hB
        have hlb := balK_len l n x
        have hlb2 : (balK l n x).length ≤ 8 := by omega
        cases gk with
        | zero =>
          obtain rfl : x = n := by omega
          clear hbO hV hM hGB hB hlb
          have hr3 := HR1.out.below HB.out HR1.out.lt
          obtain ⟨r0, r1, r2⟩ := blk3 hr3
          have z0 := hr3.frozen 0
          have z1 := hr3.frozen 1
          have z2 := hr3.frozen 2
          have FN := Lib.hid (fin_game hr3 (HLO.out.below HB.out) HM.out HV.out (btrans HE1.out HB.out) (Nat.le_succ _))
          clear hr3
          go_wp2_with fail
          obtain ⟨w5, e5, hb5, hf5, hm5, hv5, hB5⟩ := FN.out
          rw [← e5]
          obtain ⟨q0, q1, q2⟩ := blk3 hb5
          refine bodyPost_ret (v := .agg #[.slice A1 (listsN x k 0).length c1, .slice Am (listsN x k 0).length cm, .slice Ab x cb]) (by simp [results, Try.results91, go_sem, q0, q1, q2]) rfl ⟨_, _, _, uf, um, ub, rfl, ⟨gridl.readsG_of_own hf5, gridl.readsG_of_own hm5, gridl.readsG_of_own hv5⟩, hB5⟩
        | succ g3 =>
          have hxn : x < n := by omega
          have hxn' : (x : Int) < (n : Int) := by omega
          have HBA := Lib.hid (fun (W : World) (hb : Below wr.heap.size wr W) => l2Ball_own n x _ l W (H.out.below (btrans HE1.out (btrans hB hb))) hl hn hxn)
          have HSK := Lib.hid (fun (W : World) (hb : Below wr.heap.size wr W) => (⟨nearv.cell_keep y0 hb, nearv.cell_keep y1 hb⟩ : W.cell? ⟨w.heap.size, 0, none⟩ = some (.int .i64 (n : Int)) ∧ W.cell? ⟨w.heap.size, 1, none⟩ = some (.slice A l.length c)))
          have HBS := Lib.hid (balK_succ l n x)
          have hll : (castL (ballN l n x)).length = (ballL l n x).length := by rw [ballN_cast]; rfl
          have HCB : Hid (castL (ballN l n x) = ballL l n x) := ballN_cast l n x
          rw [HCB.out] at HBA
          have n1 := (HBO.out.alloc (.cells #[.slice Ab 0 0] 25)).cell 2
          clear hbO hV hM hGB hB hlb hll
          generalize ballL l n x = bl at *
          go_wp2_with fail
          refine wp_region_held_drew (S := (fun w' : World => w'.cell? ⟨w.heap.size, 0, none⟩ = some (.int .i64 (n : Int)) ∧ w'.cell? ⟨w.heap.size, 1, none⟩ = some (.slice A l.length c))) (by kernel_rfl) (by (try dsimp only); simp [*]) (fun hHeld => ?_)
          change wpAnyH _ _ _ _ _ _ #[false, false, false, false, false, false, false, false, false] _ _
          refine wpAnyH_take (i := 0) (oi := ⟨some 59, _, _, _, _, _⟩) (v := ?_) rfl (by kernel_rfl) (by kernel_rfl) (by kernel_rfl) (fun _ _ _ h => h) (Or.inl ⟨by rfl, ?_⟩) (by assumption) ?_
          rotate_left
          · (intro w hSw; (try dsimp only at hSw); go_simp; (try (with_reducible rfl)))
          try simp only [Act.put, List.setIfInBounds_toArray, List.set_cons_zero, List.set_cons_succ]
          refine wpAnyH_take (i := 2) (oi := ⟨some 61, _, _, _, _, _⟩) (v := ?_) rfl (by kernel_rfl) (by kernel_rfl) (by kernel_rfl) (fun _ _ _ h => h) (Or.inl ⟨by rfl, ?_⟩) (by assumption) ?_
          rotate_left
          · (intro w hSw; (try dsimp only at hSw); go_simp; (try (with_reducible rfl)))
          try simp only [Act.put, List.setIfInBounds_toArray, List.set_cons_zero, List.set_cons_succ]
          refine wpAnyH_take (i := 3) (oi := ⟨some 62, _, _, _, _, _⟩) (v := ?_) rfl (by kernel_rfl) (by kernel_rfl) (by kernel_rfl) (fun _ _ _ h => h) (Or.inl ⟨by rfl, ?_⟩) (by assumption) ?_
          rotate_left
          · (intro w hSw; (try dsimp only at hSw); go_simp; (try (with_reducible rfl)))
          try simp only [Act.put, List.setIfInBounds_toArray, List.set_cons_zero, List.set_cons_succ]
          refine wpAnyH_ready (rs := [1, 4]) (by kernel_rfl) (by simp) ?_
          refine AllReadyH.cons (o := ⟨some 60, _, _, _, _, _⟩) rfl (fun K hK => ?_) (AllReadyH.cons (o := ⟨some 63, _, _, _, _, _⟩) rfl (fun K hK => ?_) AllReadyH.nil)
          focus
            go_simp
            refine hK.out _ _ (HSK.out _ (Below.refl _ _).drew) (fun hHeld => ?_)
            clear hK K
            refine wpAnyH_ready (rs := [4]) (by kernel_rfl) (by simp) ?_
            refine AllReadyH.cons (o := ⟨some 63, _, _, _, _, _⟩) rfl (fun K hK => ?_) AllReadyH.nil
            go_simp
            go_at_call 143
            refine (HBA.out wr.drew (Below.refl _ _).drew).mono ?_
            rintro e w3 ⟨A3, c3, rfl, o3, b3⟩
            have d3 : Below wr.heap.size wr w3 := btrans (Below.refl _ _).drew b3
            go_wp2_with fail
            refine hK.out _ _ (HSK.out _ d3) (fun hHeld => ?_)
            clear hK K
            refine wpAnyH_ready (rs := [5]) (by kernel_rfl) (by simp) ?_
            refine AllReadyH.cons rfl (fun K hK => ?_) AllReadyH.nil
            go_simp
            refine hK.out _ _ (HSK.out _ (d3.alloc d3.size _)) (fun hHeld => ?_)
            clear hK K
            try simp only [List.setIfInBounds_toArray, List.set_cons_zero, List.set_cons_succ]
          rotate_left
          focus
            go_simp
            go_at_call 143
            refine (HBA.out wr.drew (Below.refl _ _).drew).mono ?_
            rintro e w3 ⟨A3, c3, rfl, o3, b3⟩
            have d3 : Below wr.heap.size wr w3 := btrans (Below.refl _ _).drew b3
            have hb3 := HBO.out.below d3 HBO.out.lt
            obtain ⟨k0, k1, k2⟩ := blk3 hb3
            have na := (hb3.alloc (.cells #[.slice A3 bl.length c3] 25)).cell 2
            go_wp2_with fail
            refine hK.out _ _ (HSK.out _ d3) (fun hHeld => ?_)
            clear hK K
            refine wpAnyH_ready (rs := [1, 5]) (by kernel_rfl) (by simp) ?_
            refine AllReadyH.cons (o := ⟨some 60, _, _, _, _, _⟩) rfl (fun K hK => ?_) (AllReadyH.cons (o := ⟨some 64, _, _, _, _, _⟩) rfl (fun K hK => ?_) AllReadyH.nil)
            focus
              go_simp
              refine hK.out _ _ (HSK.out _ d3) (fun hHeld => ?_)
              clear hK K
              refine wpAnyH_ready (rs := [5]) (by kernel_rfl) (by simp) ?_
              refine AllReadyH.cons rfl (fun K hK => ?_) AllReadyH.nil
              go_simp
              refine hK.out _ _ (HSK.out _ (d3.alloc d3.size _)) (fun hHeld => ?_)
              clear hK K
              try simp only [List.setIfInBounds_toArray, List.set_cons_zero, List.set_cons_succ]
            rotate_left
            focus
              go_simp
              refine hK.out _ _ (HSK.out _ (d3.alloc d3.size _)) (fun hHeld => ?_)
              clear hK K
              refine wpAnyH_ready (rs := [1]) (by kernel_rfl) (by simp) ?_
              refine AllReadyH.cons rfl (fun K hK => ?_) AllReadyH.nil
              go_simp
              refine hK.out _ _ (HSK.out _ (d3.alloc d3.size _)) (fun hHeld => ?_)
              clear hK K
              try simp only [List.setIfInBounds_toArray, List.set_cons_zero, List.set_cons_succ]
          all_goals
            have FG := Lib.hid ((HV.out.below d3).1.alloc (.cells #[.slice A3 bl.length c3] 25))
            have hs3 := d3.size
            have hb4 := HBO.out.below d3 HBO.out.lt
            have hg4 := HGB.out.below d3 HGB.out.lt
            refine wpAnyH_ready (rs := [6]) (by kernel_rfl) (by simp) ?_
            refine AllReadyH.cons rfl (fun K hK => ?_) AllReadyH.nil
            (refine step_append_lies _ rfl (.tmp 60) (.tmp 64) 44 rfl wo.heap.size 25 i1 (.slice none 0 0) 1 24 Try.underlying44 hi1 hy0 hy1 hy2 rfl (by decide) (.slice Ab x cb) (balK l n x).length ub rfl FG.out ⟨w3.heap.size, 0, none⟩ 1 1 [.slice A3 bl.length c3] rfl rfl (cell_one_new _ _ _) (fun x hx => by simp at hx; subst hx; rfl) (by decide) (by unfold maxLen; omega) (by omega) (by simp; omega) (w3.heap.size + 1) (by simp) ?_; intro g8 cap8 w8 hown8 hgrow8 lies8 lt8; have hb8 := (hb4.alloc (.cells #[.slice A3 bl.length c3] 25)).grown hgrow8 (fun e => own_ne FG.out (hb4.alloc (.cells #[.slice A3 bl.length c3] 25)) (by decide) e.symm); obtain ⟨j0, j1, j2⟩ := blk3 hb8; have z2 := hb8.frozen 2; have hg8 := (hg4.alloc (.cells #[.slice A3 bl.length c3] 25)).grown hgrow8 (fun e => own_ne FG.out (hg4.alloc (.cells #[.slice A3 bl.length c3] 25)) (by decide) e.symm); have hg9 := hg8.far (p := ⟨w1.heap.size, 2, none⟩) (by show w.heap.size ≠ w1.heap.size; omega) (.slice (some ⟨g8, 0, none⟩) ((balK l n x).length + 1) cap8))
            refine hK.out _ _ (⟨hg8.two.1, hg8.two.2.1⟩) (fun hHeld => ?_)
            clear hK K
            try simp only [Act.put, List.setIfInBounds_toArray, List.set_cons_zero, List.set_cons_succ]
            refine wpAnyH_take (i := 7) (oi := ⟨some 66, _, _, _, _, _⟩) (v := ?_) rfl (by kernel_rfl) (by kernel_rfl) (by kernel_rfl) (fun _ _ _ h => h) (Or.inl ⟨by rfl, ?_⟩) (by assumption) ?_
            rotate_left
            · (intro w hSw; (try dsimp only at hSw); go_simp; (try (with_reducible rfl)))
            try simp only [Act.put, List.setIfInBounds_toArray, List.set_cons_zero, List.set_cons_succ]
            refine wpAnyH_ready (rs := [8]) (by kernel_rfl) (by simp) ?_
            refine AllReadyH.cons rfl (fun K hK => ?_) AllReadyH.nil
            go_simp
            refine hK.out _ _ (⟨hg9.two.1, hg9.two.2.1⟩) (fun hHeld => ?_)
            clear hK K
            refine wpAnyH_done (by kernel_rfl) ?_ _
            have hV8 := OwnG.push (m := 1) (r := bl) HV.out d3 hwo o3 hown8 rfl hgrow8
            rw [← HBS.out] at hV8
            have k9 := gset1 w8 w1.heap.size 2 (.slice (some ⟨g8, 0, none⟩) ((balK l n x).length + 1) cap8)
            have HV9 := Lib.hid (OwnG.kept_c hV8 hb8 (by decide) (by decide) k9)
            have HM9 := Lib.hid (OwnG.kept_c (OwnG.kept_g ((HM.out.below d3).below ((Below.refl _ _).alloc (Nat.le_refl _) (.cells #[.slice A3 bl.length c3] 25))) FG.out (fun b hb e => by have h1 := HMLT.out b hb; have h2 := (FG.out.lt b e).1; omega) hgrow8) hb8 (by decide) (by decide) k9)
            have HBO9 : Hid (Blk (w8.setCell ⟨w1.heap.size, 2, none⟩ (.slice (some ⟨g8, 0, none⟩) ((balK l n x).length + 1) cap8)) w1.heap.size 89 #[.slice A1 (listsN n k 0).length c1, .slice Am (listsN n k 0).length cm, .slice (some ⟨g8, 0, none⟩) ((balK l n x).length + 1) cap8]) := by
              have h_ := hb8.set_ 2 (.slice (some ⟨g8, 0, none⟩) ((balK l n x).length + 1) cap8)
              show Blk _ _ _ _
              simpa using h_
            have HB9 := Lib.hid ((((btrans HB.out d3).alloc (by omega) (.cells #[.slice A3 bl.length c3] 25)).grown hgrow8 (by simp; omega) (fun j e => by have := (FG.out.lt j e).1; omega)).setCell (p := ⟨w1.heap.size, 2, none⟩) (Nat.le_refl _) (.slice (some ⟨g8, 0, none⟩) ((balK l n x).length + 1) cap8))
            have HG9 := Lib.hid hg9
            have hs9 : wo.heap.size ≤ (w8.setCell ⟨w1.heap.size, 2, none⟩ (.slice (some ⟨g8, 0, none⟩) ((balK l n x).length + 1) cap8)).heap.size := by
              have h_ := hgrow8.size
              simp [World.setCell] at h_ ⊢; omega
            clear hown8 hgrow8 lies8 hb8 j0 j1 j2 z2 hHeld hV8 hg8 hg9 hb4 hg4 k9 o3 b3 d3
            go_wp2_with fail
            go_roundg g3
            case measure => omega
            case rel => exact ⟨x + 1, _, _, by omega, by go_num, HBO9.out, HV9.out, HM9.out, HG9.out, HB9.out, hs9⟩
    | succ gg =>
      have hlt : p < (listsN n k 0).length := by omega
      have hlt' : (p : Int) < ((listsN n k 0).length : Int) := by omega
      obtain ⟨uu, gl, ol, hu, hAx, c0, hru⟩ := (gridl.readsG_of_own (HLO.out.below hB)).row (rowsN_at (cfg_at (n := n) (k := k) (p := p) hlt))
      subst hAx
      obtain ⟨Ar, cr, rfl, -⟩ := hru.form
      have hgb := HG1.out.below hB HG1.out.lt
      obtain ⟨y0, y1, -, -⟩ := hgb.two
      have HMV := Lib.hid (fun (W : World) (hb : Below wo.heap.size wo W) => l4Moves_any n _ _ l (cfg n k p) W (H.out.below (btrans HE1.out (btrans hB hb))) hl HGD.out hn (hru.below hb) (by rw [cfg_len hlt]; exact hk) (cfg_lt hlt))
      rw [plcN_moves hlt] at HMV
      have HSK := Lib.hid (fun (W : World) (hb : Below wo.heap.size wo W) => (⟨nearv.cell_keep y0 hb, nearv.cell_keep y1 hb, nearv.cell_keep x0 hb, nearv.cell_keep c0 hb⟩ : W.cell? ⟨w.heap.size, 0, none⟩ = some (.int .i64 (n : Int)) ∧ W.cell? ⟨w.heap.size, 1, none⟩ = some (.slice A l.length c) ∧ W.cell? ⟨w1.heap.size, 0, none⟩ = some (.slice (some ⟨gl, ol, none⟩) (listsN n k 0).length c1) ∧ W.cell? ⟨gl, ol + p, none⟩ = some (.slice Ar (castL (cfg n k p)).length cr)))
      have HPL : Hid ((rowsN ((plcN l n k p).map (cfg n k))).length = (plcN l n k p).length) := by show _ = _; rw [rowsN_len, List.length_map]
      have HBO := Lib.hid hbO
      have HM := Lib.hid hM
      have HB := Lib.hid hB
      clear hbO hM hB hru hu hgb
      go_wp2_with fail
      go_cut [7, 8] (fun a b wx => CutK wo wx l n k p a b)
      case first =>
        go_region_held3 (fun w' => w'.cell? ⟨w.heap.size, 0, none⟩ = some (.int .i64 (n : Int)) ∧ w'.cell? ⟨w.heap.size, 1, none⟩ = some (.slice A l.length c) ∧ w'.cell? ⟨w1.heap.size, 0, none⟩ = some (.slice (some ⟨gl, ol, none⟩) (listsN n k 0).length c1) ∧ w'.cell? ⟨gl, ol + p, none⟩ = some (.slice Ar (castL (cfg n k p)).length cr)) (first | go_keep | exact HSK.out _ d3 | exact HSK.out _ (d3.alloc d3.size _)) (first
          | (go_at_call 141; have D2 : Below wo.heap.size wo wo.drew := (Below.refl _ _).drew; (with_reducible refine (HMV.out wo.drew D2).mono ?_); rintro e w3 ⟨A3, c3, u3, rfl, r3, b3⟩; have d3 : Below wo.heap.size wo w3 := btrans D2 b3; have r4 := r3.base D2.size)
          | (go_at_call 141; have D2 : Below wo.heap.size wo (wo.alloc (.cells #[] 3)).drew := ((Below.refl _ _).alloc (Nat.le_refl _) _).drew; (with_reducible refine (HMV.out (wo.alloc (.cells #[] 3)).drew D2).mono ?_); rintro e w3 ⟨A3, c3, u3, rfl, r3, b3⟩; have d3 : Below wo.heap.size wo w3 := btrans D2 b3; have r4 := r3.base D2.size; have n3 : w3.ownsRow wo.heap.size 3 1 (.slice (some ⟨wo.heap.size, 0, none⟩) 0 0) 0 [] := own_below (own_new0 wo.drew 3 1) b3))
        all_goals (go_wp2_with fail; go_meet)
        all_goals (rw [HPL.out] at r4 ⊢)
        · exact ⟨_, _, _, _, rfl, rfl, r4.below ((Below.refl _ _).alloc (Nat.le_refl _) _), own_base (own_new0 w3 3 1) d3.size, (fun i u d hu hd e => by have := (OwnG.lt r4 i u d hu hd).2; omega), d3.alloc d3.size _⟩
        · exact ⟨_, _, _, _, rfl, rfl, r4, n3, (fun i u d hu hd e => by
            have h1 := (OwnG.lt r3 i u d hu hd).1
            have h2 : (wo.alloc (.cells #[] 3)).drew.heap.size = wo.heap.size + 1 := by simp
            omega), d3⟩
      case rest =>
        obtain ⟨Al, cl, ul, bn, rfl, rfl, hl0, hn0, hne, hBc⟩ := hcut
        obtain ⟨wd, hwd⟩ : ∃ wd, wd = wc := ⟨_, rfl⟩
        subst hwd
        have hzd := hBc.size
        have hPle := plcN_len l n k p
        have HPT := Lib.hid (fun q (hq : q ∈ plcN l n k p) => plcN_lt hq)
        have HMV9 := Lib.hid (plcN_cast l n k p)
        have HLT := Lib.hid (fun i u d hu hd => (OwnG.lt hl0 i u d hu hd).2)
        have HNE := Lib.hid hne
        have HL0 := Lib.hid hl0
        have HN0 := Lib.hid hn0
        have HBC := Lib.hid hBc
        have HROW : Hid (∀ j q, (plcN l n k p)[j]? = some q → (rowsN ((plcN l n k p).map (cfg n k)))[j]? = some (castL (cfg n k q))) := fun j q hq => rowsN_at (by rw [List.getElem?_map, hq]; rfl)
        clear hl0 hn0 hne hBc x0 x1 x2 y0 y1 c0 HMV HSK
        generalize plcN l n k p = Q at *
        go_wp2_with fail
        go_loopg [8, 9] Q.length (fun g rv jv wr9 => ∃ (j : Nat) (rw9 : Value), rw9 = rv ∧ j + g = Q.length ∧ jv = .int .i64 (j : Int) ∧ wr9.ownsRow wo.heap.size 3 1 rw9 j (cellsI (castL (Q.take j))) ∧ OwnG wr9 wo.heap.size (.slice Al Q.length cl) ul (rowsN (Q.map (cfg n k))) ∧ Hid (∀ b, rw9.ownBlock = some b → b = bn ∨ wd.heap.size ≤ b) ∧ Below wo.heap.size wo wr9 ∧ wd.heap.size ≤ wr9.heap.size)
        case atStart => exact ⟨0, _, rfl, by omega, rfl, HN0.out, HL0.out, fun b hb => .inl (by simp [Value.ownBlock] at hb; exact hb.symm), HBC.out, Nat.le_refl _⟩
        case round =>
          clear HN0 HL0
          obtain ⟨j, rw9, rfl, hjg, rfl, hrow, hl9, hbk, hB9, hwd9⟩ := hrel
          obtain ⟨A9, c9, rfl⟩ := own_form hrow
          cases gk with
          | zero =>
            obtain rfl : j = Q.length := by omega
            have hMB := HM.out.below hB9
            have hbO9 := HBO.out.below hB9 HBO.out.lt
            obtain ⟨x0, x1, x2⟩ := blk3 hbO9
            rw [List.take_length] at hrow
            have HRW := Lib.hid hrow
            have HB9 := Lib.hid hB9
            have HBO9 := Lib.hid hbO9
            have HM9 := Lib.hid hMB
            have hszB := HB.out.size
            have hsz9 := hB9.size
            have hml : (mvK4 l n k p).length ≤ 300 := by rw [mvK4_len]; omega
            have HMS := Lib.hid (mvK4_succ l n k p)
            clear hrow hl9 hbk hB9 hMB hbO9
            go_wp2_with (at_builtin; refine wpList_append_own _ rfl (.tmp 48) (.tmp 50) 44 rfl w1.heap.size 25 i1 (.slice none 0 0) 1 24 Try.underlying44 hi1 hy0 hy1 hy2 rfl (by decide) _ _ _ rfl (HM9.out.1.alloc _) ⟨wr.heap.size, 0, none⟩ 1 1 [.slice A9 Q.length c9] rfl rfl (cell_one_new _ _ _) (fun x hx => by simp at hx; subst hx; rfl) (by unfold maxLen; omega) (by omega) (by simp; omega) ?_; intro v6 w6 hown6 hgrow6 _; obtain ⟨A6, c6, rfl⟩ := own_form hown6; have hb6 := (HBO9.out.alloc (.cells #[.slice A9 Q.length c9] 25)).grown hgrow6 (fun e => own_ne (HM9.out.1.alloc (.cells #[.slice A9 Q.length c9] 25)) (HBO9.out.alloc (.cells #[.slice A9 Q.length c9] 25)) (by decide) e.symm); obtain ⟨e0, e1, e2⟩ := blk3 hb6; have z1 := hb6.frozen 1)
            have hG6 := OwnG.push (r := castL Q) HM.out HB9.out hszB (by rw [castL_len]; exact HRW.out) hown6 rfl hgrow6
            rw [HMV9.out, ← HMS.out] at hG6
            have HG7 := Lib.hid (OwnG.kept_c hG6 hb6 (by decide) (by decide) (gset1 w6 w1.heap.size 1 (.slice A6 ((mvK4 l n k p).length + 1) c6)))
            have HBO7 : Hid (Blk (w6.setCell ⟨w1.heap.size, 1, none⟩ (.slice A6 ((mvK4 l n k p).length + 1) c6)) w1.heap.size 89 #[.slice (some ⟨gl, ol, none⟩) (listsN n k 0).length c1, .slice A6 ((mvK4 l n k p).length + 1) c6, .slice none 0 0]) := by
              have h_ := hb6.set_ 1 (.slice A6 ((mvK4 l n k p).length + 1) c6)
              show Blk _ _ _ _
              simpa using h_
            have HB7 := Lib.hid ((((btrans HB.out HB9.out).alloc (by omega) (.cells #[.slice A9 Q.length c9] 25)).grown hgrow6 (by simp; omega) (fun j e => (HM9.out.1.lt j e).1)).setCell (p := ⟨w1.heap.size, 1, none⟩) (Nat.le_refl _) (.slice A6 ((mvK4 l n k p).length + 1) c6))
            clear hown6 hgrow6 hb6 e0 e1 e2 z1 hG6
            go_roundg gg
            case measure => omega
            case rel => exact ⟨p + 1, _, _, by omega, by go_num, HBO7.out, HG7.out, HB7.out⟩
          | succ g3 =>
            have hjl : j < Q.length := by omega
            have hjl' : (j : Int) < (Q.length : Int) := by omega
            obtain ⟨q, hq⟩ : ∃ q, Q[j]? = some q := ⟨_, List.getElem?_eq_getElem hjl⟩
            have hqP := HPT.out q (List.mem_of_getElem? hq)
            obtain ⟨u9, g9, o9, hu9, hAx, c9', hru9⟩ := (gridl.readsG_of_own hl9).row (HROW.out j q hq)
            subst hAx
            obtain ⟨Aq, cq, rfl, -⟩ := hru9.form
            have hbO9 := HBO.out.below hB9 HBO.out.lt
            obtain ⟨x0, x1, x2⟩ := blk3 hbO9
            have hLO9 := HLO.out.below (btrans HB.out hB9)
            have HAT := Lib.hid (fun (W : World) (hb : Below _ _ W) => l4At_any (.slice (some ⟨gl, ol, none⟩) (listsN n k 0).length c1) (.slice Aq (castL (cfg n k q)).length cq) uf (listsN n k 0) (cfg n k q) k q W (gridl.readsG_of_own (hLO9.below hb)) (hru9.below hb) (cfg_at hqP) (lists_lex n k 0) (fun L hL => (lists_mem k 0 L hL).1) hk (by omega))
            have HSK9 := Lib.hid (fun (W : World) (hb : Below _ _ W) => (⟨nearv.cell_keep x0 hb, nearv.cell_keep c9' hb⟩ : W.cell? ⟨w1.heap.size, 0, none⟩ = some (.slice (some ⟨gl, ol, none⟩) (listsN n k 0).length c1) ∧ W.cell? ⟨g9, o9 + j, none⟩ = some (.slice Aq (castL (cfg n k q)).length cq)))
            have hne9 : Hid (∀ (i : Nat) u b, ul[i]? = some u → u.ownBlock = some b → (Value.slice A9 j c9).ownBlock ≠ some b) := fun i u b hu hb e => by
              rcases hbk.out b e with h1 | h1
              · exact HNE.out i u b hu hb h1
              · have := HLT.out i u b hu hb; omega
            have HTK : Hid (cellsI (castL (Q.take j)) ++ [.int .i64 (q : Int)] = cellsI (castL (Q.take (j + 1)))) := by
              show _ = _
              rw [List.take_add_one, hq]; simp [cellsI, castL]
            have HBO9 := Lib.hid hbO9
            have HCG : Hid (∀ W, OwnG W wo.heap.size (.slice (some ⟨g9, o9, none⟩) Q.length cl) ul (rowsN (Q.map (cfg n k))) → W.cell? ⟨g9, o9 + j, none⟩ = some (.slice Aq (castL (cfg n k q)).length cq)) := fun W hW => by
              obtain ⟨u8, g8, o8, hu8, e8, c8, -⟩ := (gridl.readsG_of_own hW).row (HROW.out j q hq)
              obtain ⟨rfl, rfl⟩ : g9 = g8 ∧ o9 = o8 := by simpa using e8
              rw [hu9] at hu8
              cases hu8
              exact c8
            have HRW := Lib.hid hrow
            have HL9 := Lib.hid hl9
            have HBK := Lib.hid hbk.out
            have HB9 := Lib.hid hB9
            have hs9 := hB9.size
            clear hrow hl9 hbk hB9 hLO9 hu9 hru9 hbO9 hq
            go_wp2_with fail
            have hcl9 : (cellsI (castL (Q.take j))).length ≤ 300 := by rw [cellsI_len, castL_len, List.length_take]; omega
            go_region_held3 (fun w' => w'.cell? ⟨w1.heap.size, 0, none⟩ = some (.slice (some ⟨gl, ol, none⟩) (listsN n k 0).length c1) ∧ w'.cell? ⟨g9, o9 + j, none⟩ = some (.slice Aq (castL (cfg n k q)).length cq)) (first | go_keep | exact s7 | exact HSK9.out _ d5 | exact HSK9.out _ (d5.alloc d5.size _)) (first
              | (go_at_call 142; have D2 : Below wr.heap.size wr wr.drew := (Below.refl _ _).drew; (with_reducible refine (HAT.out wr.drew D2).mono ?_); rintro e w5 ⟨rfl, b5⟩; have d5 : Below wr.heap.size wr w5 := btrans D2 b5; have hr5 := own_below HRW.out d5)
              | (refine step_append_lies _ rfl (.tmp 37) (.tmp 45) 25 rfl wo.heap.size 3 i0 (.int .i64 0) 1 8 Try.underlying25 hi hz0 hz1 hz2 rfl (by decide) (.slice A9 j c9) j (cellsI (castL (Q.take j))) rfl (hr5.alloc _) ⟨w5.heap.size, 0, none⟩ 1 1 [.int .i64 (q : Int)] rfl rfl (cell_one_new _ _ _) (fun x hx => by simp at hx; subst hx; rfl) (by decide) (by unfold maxLen; omega) (by omega) (by have := d5.size; simp; omega) (w5.heap.size + 1) (by simp) ?_; intro g7 cap7 w7 hown7 hgrow7 lies7 lt7; have hl7 := OwnG.kept_r ((HL9.out.below d5).below ((Below.refl _ _).alloc (Nat.le_refl _) (.cells #[.int .i64 (q : Int)] 3))) (hr5.alloc (.cells #[.int .i64 (q : Int)] 3)) hne9.out hgrow7; have d7 := ((btrans HB9.out d5).alloc (by have := d5.size; omega) (.cells #[.int .i64 (q : Int)] 3)).grown hgrow7 (by have := d5.size; simp; omega) (fun jj e => (hr5.lt jj e).1); have hb7 := (HBO9.out.below d5 (Nat.lt_of_lt_of_le HBO9.out.lt (Nat.le_refl _))); have s7 : w7.cell? ⟨w1.heap.size, 0, none⟩ = some (.slice (some ⟨gl, ol, none⟩) (listsN n k 0).length c1) ∧ w7.cell? ⟨g9, o9 + j, none⟩ = some (.slice Aq (castL (cfg n k q)).length cq) := ⟨(blk3 (HBO.out.below d7 HBO.out.lt)).1, HCG.out w7 hl7⟩))
            have HR7 : Hid (w7.ownsRow wo.heap.size 3 1 (.slice (some ⟨g7, 0, none⟩) (j + 1) cap7) (j + 1) (cellsI (castL (Q.take (j + 1))))) := by
              show World.ownsRow _ _ _ _ _ _ _
              rw [← HTK.out]; exact hown7
            have HK7 : Hid (∀ b, (Value.slice (some ⟨g7, 0, none⟩) (j + 1) cap7).ownBlock = some b → b = bn ∨ wd.heap.size ≤ b) := fun b hb => by
              have hb2 : b = g7 := by simp [Value.ownBlock] at hb; exact hb.symm
              subst hb2
              rcases lies7 with h1 | h1
              · exact HBK.out b h1
              · right; have := d5.size; omega
            have hs7 : wd.heap.size ≤ w7.heap.size := by
              have h_ := hgrow7.size
              have h2 := d5.size
              rw [World.size_alloc] at h_
              omega
            clear hown7 hgrow7 lies7 lt7 hb7 s7 b5
            go_wp2_with fail
            go_roundg g3
            case measure => omega
            case rel => exact ⟨j + 1, _, rfl, by omega, by go_num, HR7.out, hl7, HK7, d7, hs7⟩
end Go.Proofs.Ytphlpipbhaiijaa.lists

/- Evasions: the contracts of the model's l4Evades and IsEvasion. -/
namespace Go.Proofs.Ytphlpipbhaiijaa.evas
open Go.RowKit P2 words edges ints good adjs fns sets rets apps gridr grid trip covs bitsI times lists balls
set_option linter.unusedVariables false

def evD (l : List Ed) (n k : Nat) (sets : List (List Int)) (x q : Nat) : Bool := !(gameN l n k).tk q x && (ballL l n x).any fun y => decide (y ∈ sets.getD q [])
def evB (l : List Ed) (n k : Nat) (sets : List (List Int)) (c x : Nat) : Bool := (mvN l n k c).all fun d => evD l n k sets x d.toNat
theorem evB_iff {l : List Ed} {n k : Nat} {sets : List (List Int)} {c x : Nat} : evB l n k sets c x = true ↔ EvAt l n k sets c x := by
  have hD : ∀ q, evD l n k sets x q = true ↔ (gameN l n k).tk q x = false ∧ ∃ y : Nat, y < n ∧ ballB l x y = true ∧ (y : Int) ∈ sets.getD q [] := fun q => by
    unfold evD
    rw [Bool.and_eq_true, List.any_eq_true]
    constructor
    · rintro ⟨h1, y, hy, h2⟩
      obtain ⟨j, hj, hb, rfl⟩ := mem_nw.1 (show y ∈ nw (ballB l x) n from hy)
      exact ⟨by simpa using h1, j, hj, hb, of_decide_eq_true h2⟩
    · rintro ⟨h1, y, hy, hb, hm⟩
      exact ⟨by rw [h1]; rfl, (y : Int), (mem_nw.2 ⟨y, hy, hb, rfl⟩ : (y : Int) ∈ nw (ballB l x) n), decide_eq_true hm⟩
  unfold evB EvAt
  rw [List.all_eq_true]
  constructor
  · intro h q hq hm
    have := h (q : Int) (mem_nw.2 ⟨q, hq, hm, rfl⟩)
    rw [Int.toNat_natCast] at this
    exact (hD q).1 this
  · intro h d hd
    obtain ⟨j, hj, hm, rfl⟩ := mem_nw.1 hd
    rw [Int.toNat_natCast]
    exact (hD j).2 (h j hj hm)
theorem all_no {p : Int → Bool} {L : List Int} {j : Nat} {d : Int} (h : L[j]? = some d) (hd : p d = false) : L.all p = false := by
  rw [List.all_eq_false]
  exact ⟨d, List.mem_of_getElem? h, by rw [hd]; simp⟩
theorem all_yes {p : Int → Bool} {L : List Int} (h : ∀ i d, i < L.length → L[i]? = some d → p d = true) : L.all p = true := by
  rw [List.all_eq_true]
  intro d hd
  obtain ⟨i, hi⟩ := List.getElem?_of_mem hd
  exact h i d (List.getElem?_eq_some_iff.1 hi).1 hi
theorem any_take {p : Int → Bool} {L : List Int} {j : Nat} {y : Int} (h : L[j]? = some y) : (L.take (j + 1)).any p = ((L.take j).any p || p y) := by
  rw [List.take_add_one, h]; simp
theorem retBB3 {a b c d : Bool} (h : a = c) (h2 : b = d) : Ending.returned (.tuple #[.bool a, .bool b]) = .returned (.tuple #[.bool c, .bool d]) := by rw [h, h2]
theorem getD_of3 {sets : List (List Int)} {c : Nat} {r : List Int} (h : sets[c]? = some r) : sets.getD c [] = r := by simp [List.getD, h]
set_option maxHeartbeats 4000000 in
set_option maxRecDepth 100000 in
theorem l4Evades_any (n k c x : Nat) (fv mv bv sv : Value) (uf um ub us : List Value) (sets : List (List Int)) (l : List Ed) (w : World) (h : HS w l n k fv mv bv uf um ub) (hs : ReadsG w sv us sets) (hrw : ∀ r ∈ sets, r.length ≤ 1048576) (hlen : sets.length = (gameN l n k).P) (hn : n ≤ 8) (hk : k ≤ 3) (hc : c < (gameN l n k).P) (hx : x < n) :
    Calls Try.prog 93 #[.agg #[fv, mv, bv], sv, .int .i64 (c : Int), .int .i64 (x : Int)] w fun e w' => e = .returned (.bool (evB l n k sets c x)) ∧ Below w.heap.size w w' := by
  obtain ⟨Af, cf, rfl, -⟩ := h.cfgs.1
  obtain ⟨Am, cm, rfl, -⟩ := h.moves.1
  obtain ⟨Ab, cb, rfl, -⟩ := h.balls.1
  obtain ⟨As, cs, rfl, -⟩ := hs.1
  rw [rowsN_len, mvG_len, ballG_len] at *
  obtain ⟨u1, g1, o1, hu1, rfl, c1, hr1⟩ := h.moves.row (mvG_at hc)
  obtain ⟨A1, k1, rfl, hc1⟩ := hr1.form
  obtain ⟨u2, g2, o2, hu2, rfl, c2, hr2⟩ := h.balls.row (ballG_at (l := l) hx)
  obtain ⟨A2, k2, rfl, hc2⟩ := hr2.form
  have hP : (gameN l n k).P ≤ 200 := game_small hn hk
  have hcm : (c : Int) < ((gameN l n k).P : Int) := by omega
  have hxn : (x : Int) < (n : Int) := by omega
  have hml := mvN_len l n k c
  have hbl : (ballL l n x).length ≤ n := nw_len (ballB l x) n
  have HMV := Lib.hid (fun (j : Nat) (d : Int) (hj : (mvN l n k c)[j]? = some d) => mem_nw.1 (List.mem_of_getElem? hj))
  have HCF := Lib.hid h.cfgs
  have HST := Lib.hid hs
  have HC1 := Lib.hid hc1
  have HC2 := Lib.hid hc2
  have HRW := Lib.hid hrw
  have HLN := Lib.hid hlen
  have HM1 := Lib.hid c1
  have HM2 := Lib.hid c2
  have HVB : Hid (evB l n k sets c x = (mvN l n k c).all fun d => evD l n k sets x d.toNat) := rfl
  have hPl : (gameN l n k).P = (listsN n k 0).length := rfl
  have HG0 := Lib.hid (Blk.new w 89 #[.slice Af (listsN n k 0).length cf, .slice (some ⟨g1, o1, none⟩) (gameN l n k).P cm, .slice (some ⟨g2, o2, none⟩) n cb])
  have HB0 : Hid (Below w.heap.size w (w.alloc (.cells #[.slice Af (listsN n k 0).length cf, .slice (some ⟨g1, o1, none⟩) (gameN l n k).P cm, .slice (some ⟨g2, o2, none⟩) n cb] 89))) := (Below.refl _ _).alloc (Nat.le_refl _) _
  clear h hs hrw hu1 hu2 hr1 hr2 hc1 hc2 c1 c2 hlen
  generalize mvN l n k c = M at *
  go_enter Try.func93, Try.ntmps93
  go_wp2_with fail
  go_loopg [9] M.length (fun g iv wr => ∃ j : Nat, j + g = M.length ∧ iv = .int .i64 (j : Int) ∧ Hid (∀ i d, i < j → M[i]? = some d → evD l n k sets x d.toNat = true) ∧ Blk wr w.heap.size 89 #[.slice Af (listsN n k 0).length cf, .slice (some ⟨g1, o1, none⟩) (gameN l n k).P cm, .slice (some ⟨g2, o2, none⟩) n cb] ∧ Below w.heap.size w wr)
  case atStart => exact ⟨0, by omega, rfl, fun i d hi => by omega, HG0.out, HB0.out⟩
  case round =>
    clear HG0 HB0
    obtain ⟨j, hjg, rfl, hok, hgb, hB⟩ := hrel
    obtain ⟨p0, p1, p2⟩ := blk3 hgb
    have HG := Lib.hid hgb
    have HB := Lib.hid hB
    have m1 := nearv.cell_keep HM1.out hB
    cases gk with
    | zero =>
      obtain rfl : j = M.length := by omega
      have HV : Hid (evB l n k sets c x = true) := by show _ = _; rw [HVB.out]; exact all_yes hok.out
      clear hgb hB
      go_wp2_with fail
      go_ret
      exact ⟨ret_bool HV.out.symm, HB.out⟩
    | succ gg =>
      have hlt : j < M.length := by omega
      have hlt' : (j : Int) < (M.length : Int) := by omega
      obtain ⟨d, hd⟩ : ∃ d, M[j]? = some d := ⟨_, List.getElem?_eq_getElem hlt⟩
      obtain ⟨g5, o5, rfl, c5⟩ := HC1.out j d hd
      have m5 := nearv.cell_keep c5 hB
      obtain ⟨q, hq, hmq, rfl⟩ := HMV.out j d hd
      have hq1 : (q : Int) < ((listsN n k 0).length : Int) := by omega
      obtain ⟨u6, g6, o6, hu6, rfl, c6, hr6⟩ := HCF.out.row (rowsN_at (cfg_at (n := n) (k := k) (p := q) hq))
      obtain ⟨A6, k6, rfl, -⟩ := hr6.form
      have m6 := nearv.cell_keep c6 hB
      have hcl : (castL (cfg n k q)).length ≤ 1048576 := by rw [castL_len, cfg_len hq]; omega
      have HAS := Lib.hid (l1Has_any _ (castL (cfg n k q)) (x : Int) wr (hr6.below hB) hcl)
      rw [mem_cfg] at HAS
      have HTK : Hid (decide (x ∈ cfg n k q) = (gameN l n k).tk q x) := rfl
      rw [HTK.out] at HAS
      have HDV : Hid (evD l n k sets x q = (!(gameN l n k).tk q x && (ballL l n x).any fun y => decide (y ∈ sets.getD q []))) := rfl
      have HNO : Hid (evD l n k sets x q = false → evB l n k sets c x = false) := fun hh => by rw [HVB.out]; exact all_no hd (by simpa using hh)
      have HYE : Hid (evD l n k sets x q = true → ∀ i d, i < j + 1 → M[i]? = some d → evD l n k sets x d.toNat = true) := fun hh i d' hi hd' => by
        by_cases e : i = j
        · subst e; rw [hd] at hd'; cases hd'; simpa using hh
        · exact hok.out i d' (by omega) hd'
      have HHD := Lib.hid hd
      clear hgb hB hd c5 hu6 c6 hr6 hcl hok HTK
      cases htk : (gameN l n k).tk q x with
      | true =>
        have HV := Lib.hid (HNO.out (by rw [HDV.out, htk]; rfl))
        rw [htk] at HAS
        clear htk
        go_wp2_with fail
        refine HAS.out.mono ?_
        rintro e w' ⟨rfl, rfl⟩
        go_wp2_with fail
        go_ret
        exact ⟨ret_bool HV.out.symm, HB.out⟩
      | false =>
        have HDV2 : Hid (evD l n k sets x q = (ballL l n x).any fun y => decide (y ∈ sets.getD q [])) := by show _ = _; rw [HDV.out, htk]; rfl
        rw [htk] at HAS
        clear htk HDV
        obtain ⟨r, hr⟩ : ∃ r, sets[q]? = some r := ⟨_, List.getElem?_eq_getElem (by rw [HLN.out]; exact hq)⟩
        have hrl := HRW.out r (List.mem_of_getElem? hr)
        rw [getD_of3 hr] at HDV2
        obtain ⟨u7, g7, o7, hu7, rfl, c7, hr7⟩ := HST.out.row hr
        obtain ⟨A7, k7, rfl, -⟩ := hr7.form
        have HR7 := Lib.hid hr7
        have HM7 := Lib.hid c7
        have hqs : (q : Int) < (sets.length : Int) := by have := HLN.out; omega
        generalize ballL l n x = bl at *
        clear hr hu7 c7 hr7
        go_wp2_with fail
        refine HAS.out.mono ?_
        rintro e w' ⟨rfl, rfl⟩
        have HB1 := Lib.hid (Below.refl wr.heap.size wr)
        obtain ⟨wo, hwo⟩ : ∃ wo, wo = wr := ⟨_, rfl⟩
        subst hwo
        clear p0 p1 p2 m1 m5 m6
        go_wp2_with fail
        go_loopg [11, 12] bl.length (fun g fv9 iv wr => ∃ (i : Nat) (b : Bool), i + g = bl.length ∧ fv9 = .bool b ∧ iv = .int .i64 (i : Int) ∧ Hid ((bl.take i).any (fun y => decide (y ∈ r)) = b) ∧ Below wo.heap.size wo wr)
        case atStart => exact ⟨0, false, by omega, rfl, rfl, rfl, HB1.out⟩
        case round =>
          clear HB1
          obtain ⟨i, b, hig, rfl, rfl, hfo, hB⟩ := hrel
          have hgb := HG.out.below hB HG.out.lt
          obtain ⟨p0, p1, p2⟩ := blk3 hgb
          have hBB := btrans HB.out hB
          have HBB := Lib.hid hBB
          have m2 := nearv.cell_keep HM2.out hBB
          have HGB := Lib.hid hgb
          cases gk with
          | zero =>
            obtain rfl : i = bl.length := by omega
            have HE : Hid (evD l n k sets x q = b) := by show _ = _; rw [HDV2.out, ← hfo.out, List.take_length]
            clear hgb hB hBB
            cases b with
            | false =>
              have HV := Lib.hid (HNO.out HE.out)
              go_wp2_with fail
              go_ret
              exact ⟨ret_bool HV.out.symm, HBB.out⟩
            | true =>
              have HK := Lib.hid (HYE.out HE.out)
              go_wp2_with fail
              go_roundg gg
              case measure => omega
              case rel => exact ⟨j + 1, by omega, by go_num, HK, HGB.out, HBB.out⟩
          | succ g4 =>
            have hil : i < bl.length := by omega
            have hil' : (i : Int) < (bl.length : Int) := by omega
            obtain ⟨y, hy⟩ : ∃ y, bl[i]? = some y := ⟨_, List.getElem?_eq_getElem hil⟩
            obtain ⟨g8, o8, rfl, c8⟩ := HC2.out i y hy
            have m8 := nearv.cell_keep c8 hBB
            have m7 := nearv.cell_keep HM7.out hBB
            have HAT := Lib.hid (any_take (p := fun y => decide (y ∈ r)) hy)
            rw [hfo.out] at HAT
            have HH := Lib.hid (fun (m : Nat) => l1Has_any _ r y (wr.drewN m) (HR7.out.below (below_drewN hBB m)) hrl)
            have HBQ := Lib.hid (fun nq => below_drewN hB nq)
            clear hy c8 hgb hB hBB hfo
            cases b with
            | true =>
              go_wp2_with fail
              go_quiet (fail)
              go_wp2_with fail
              go_roundg g4
              case measure => omega
              case rel => exact ⟨i + 1, true, by omega, rfl, by go_num, by rw [HAT.out]; rfl, HBQ.out _⟩
            | false =>
              generalize hdy : decide (y ∈ r) = dy at *
              have HAT2 : Hid ((bl.take (i + 1)).any (fun y => decide (y ∈ r)) = dy) := by show _ = _; rw [HAT.out]; simp
              clear hdy HAT
              go_wp2_with fail
              go_quiet (first | (go_at_call 79; exact quiet_left (HH.out _)))
              go_wp2_with fail
              go_roundg g4
              case measure => omega
              case rel => exact ⟨i + 1, dy, by omega, rfl, by go_num, HAT2, HBQ.out _⟩
set_option maxHeartbeats 8000000 in
set_option maxRecDepth 100000 in
theorem specEv_any (s k : Int) (v : Value) (l : List Ed) (A2 : Option Addr) (c2 : Nat) (us : List Value) (sets : List (List Int)) (w : World) (h : Edges w v l) (hl : l.length ≤ 1048576) (h2 : ReadsG w (.slice A2 sets.length c2) us sets) (hm : sets.length ≤ 1048576) (hrw : ∀ r ∈ sets, r.length ≤ 1048576) (hs1 : -9223372036854775808 ≤ s) (hs2 : s ≤ 9223372036854775807) :
    Calls Try.prog 44 #[.agg #[.int .i64 s, v], .int .i64 k, .slice A2 sets.length c2] w fun e w' => e = .returned (.tuple #[.bool (okG (EvOk s l k sets)), .bool (okG (cops.FieldP s l k))]) ∧ Below w.heap.size w w' := by
  obtain ⟨A, c, rfl, -⟩ := h.form
  have H := Lib.hid h
  have HS2 := Lib.hid h2
  have HRW := Lib.hid hrw
  have b0 : Below w.heap.size w (w.alloc (.cells #[.int .i64 s, .slice A l.length c] 29)) := (Below.refl _ _).alloc (Nat.le_refl _) _
  have g0 := Blk.new w 29 #[.int .i64 s, .slice A l.length c]
  have HB0 := Lib.hid b0
  have HG0 := Lib.hid g0
  obtain ⟨p0, p1, -, -⟩ := g0.two
  have HFI := Lib.hid (cops.l4Field_any s k (.slice A l.length c) l _ (h.below b0) hl hs1 hs2)
  by_cases hf : cops.FieldP s l k
  · rw [okG_yes hf] at HFI
    have h0 := hf.1.1
    have h8 := hf.1.2.1
    have hk1 := hf.2.2.1
    have hk3 := hf.2.2.2
    have hgood := hf.1
    have HFP := Lib.hid hf
    obtain ⟨n, rfl⟩ : ∃ n : Nat, s = (n : Int) := ⟨s.toNat, by omega⟩
    obtain ⟨kk, rfl⟩ : ∃ n : Nat, k = (n : Int) := ⟨k.toNat, by omega⟩
    have hn : n ≤ 8 := by omega
    have hkk : kk ≤ 3 := by omega
    have HPF : Hid (okG (cops.FieldP (n : Int) l (kk : Int)) = true) := okG_yes hf
    have HOK : Hid (EvOk (n : Int) l (kk : Int) sets ↔ EvS l n kk sets) := by
      show _ ↔ _
      unfold EvOk
      rw [Int.toNat_natCast, Int.toNat_natCast]
      exact ⟨fun h => h.2, fun h => ⟨HFP.out, h⟩⟩
    have HMK := Lib.hid (fun (W : World) (hb : Below w.heap.size w W) => l4Make_any n kk (.slice A l.length c) l W (h.below hb) hl hgood hn hkk)
    clear h h2 hrw hf b0 g0 HFP
    go_enter Try.func44, Try.ntmps44
    go_wp2_with fail
    refine HFI.out.mono ?_
    rintro e w1 ⟨rfl, b1⟩
    have HE1 := Lib.hid (btrans HB0.out b1)
    have HG1 := Lib.hid (HG0.out.below b1 HG0.out.lt)
    clear b1 HFI HB0 HG0 p0 p1
    obtain ⟨p0, p1, -, -⟩ := HG1.out.two
    go_wp2_with fail
    refine (HMK.out _ HE1.out).mono ?_
    rintro e w2 ⟨fv, mv, bv, uf, um, ub, rfl, hS, b2⟩
    obtain ⟨Af, cf, rfl, -⟩ := hS.cfgs.1
    obtain ⟨Am, cm, rfl, -⟩ := hS.moves.1
    obtain ⟨Ab, cb, rfl, -⟩ := hS.balls.1
    have hrl0 : (rowsN (listsN n kk 0)).length = (gameN l n kk).P := rowsN_len _
    rw [hrl0, mvG_len, ballG_len] at *
    have HE2 := Lib.hid (btrans HE1.out b2)
    have HG2 := Lib.hid (HG1.out.below b2 HG1.out.lt)
    have b3 : Below w2.heap.size w2 (w2.alloc (.cells #[.slice Af (gameN l n kk).P cf, .slice Am (gameN l n kk).P cm, .slice Ab n cb] 89)) := (Below.refl _ _).alloc (Nat.le_refl _) _
    have HK3 := Lib.hid (Blk.new w2 89 #[.slice Af (gameN l n kk).P cf, .slice Am (gameN l n kk).P cm, .slice Ab n cb])
    have HE3 := Lib.hid (btrans HE2.out b3)
    have HG3 := Lib.hid (HG2.out.below b3 HG2.out.lt)
    have HS3 := Lib.hid (hS.below b3)
    obtain ⟨k0, k1, k2⟩ := blk3 HK3.out
    clear p0 p1
    obtain ⟨p0, p1, -, -⟩ := HG3.out.two
    have hP : (gameN l n kk).P ≤ 200 := game_small hn hkk
    clear hS b2 b3 HE1 HG1 HE2 HG2 HMK hrl0
    by_cases hlen : sets.length = (gameN l n kk).P
    · have HLN := Lib.hid hlen
      rw [hlen]
      clear hlen
      obtain ⟨P, hPe⟩ : ∃ P, P = (gameN l n kk).P := ⟨_, rfl⟩
      have HP := Lib.hid hPe
      rw [← hPe] at hP k0 k1 ⊢
      rw [← hPe] at HK3 HE3 HG3 HS3 p0 p1 k2
      clear hPe
      have HNO : Hid (∀ q, q < P → ¬ EvC l n kk sets q → okG (EvOk (n : Int) l (kk : Int) sets) = false) := fun q hq hh => okG_no fun hok => hh ((HOK.out.1 hok).2 q (by rw [← HP.out]; exact hq))
      have HX0 : Hid (∀ q, q < 0 → EvC l n kk sets q) := fun q hq => by omega
      go_wp2_with fail
      generalize w2.alloc (.cells #[.slice Af P cf, .slice Am P cm, .slice Ab n cb] 89) = w3 at *
      have HB3 := Lib.hid (Below.refl w3.heap.size w3)
      clear k0 k1 k2 p0 p1
      go_loopg [9] P (fun g iv wr => ∃ q : Nat, q + g = P ∧ iv = .int .i64 (q : Int) ∧ Hid (∀ q', q' < q → EvC l n kk sets q') ∧ Below w3.heap.size w3 wr)
      case atStart => exact ⟨0, by omega, rfl, HX0, HB3.out⟩
      case round =>
        clear HX0 HB3
        obtain ⟨q, hqg, rfl, hval, hB⟩ := hrel
        have HB := Lib.hid hB
        have hgb := HG3.out.below hB HG3.out.lt
        obtain ⟨p0, p1, -, -⟩ := hgb.two
        have HGB := Lib.hid hgb
        have hbe := btrans HE3.out hB
        have HBE := Lib.hid hbe
        cases gk with
        | zero =>
          obtain rfl : q = P := by omega
          have HYES : Hid (okG (EvOk (n : Int) l (kk : Int) sets) = true) := okG_yes (HOK.out.2 ⟨HLN.out, fun c hc => hval.out c (by rw [HP.out]; exact hc)⟩)
          clear hgb hB hbe
          go_wp2_with fail
          go_ret2
          exact ⟨retBB3 HYES.out.symm HPF.out.symm, HBE.out⟩
        | succ g2 =>
          have hlt : q < P := by omega
          have hlt' : (q : Int) < (P : Int) := by omega
          obtain ⟨r, hr⟩ : ∃ r, sets[q]? = some r := ⟨_, List.getElem?_eq_getElem (by rw [HLN.out, ← HP.out]; exact hlt)⟩
          have hrl := HRW.out r (List.mem_of_getElem? hr)
          have HGR := Lib.hid (getD_of3 hr)
          obtain ⟨u5, g5, o5, hu5, rfl, c5, hr5⟩ := HS2.out.row hr
          obtain ⟨A6, c6, rfl, -⟩ := hr5.form
          have q5 := nearv.cell_keep c5 hbe
          have HR5 := Lib.hid hr5
          have HC5 := Lib.hid c5
          have HSET := Lib.hid (l2Set_any (n : Int) (.slice A l.length c) (.slice A6 r.length c6) l r wr.drew (HR5.out.below hbe.drew) hrl h0 h8)
          clear hr hu5 c5 hr5 hgb hB hbe
          by_cases hok : RisesIn r 0 ((n : Int) - 1)
          · rw [okG_yes hok] at HSET
            have HSO := Lib.hid ((setOk_iff hgood).1 hok)
            clear hok
            by_cases hr0 : r.length = 0
            · have hre := List.eq_nil_of_length_eq_zero hr0
              have HV := Lib.hid (HNO.out q hlt (fun hh => hh.2.1 (by rw [HGR.out]; exact hre)))
              rw [hre, List.length_nil] at HSET q5
              clear hre hr0 hrl HR5 HC5 HGR HSO
              go_wp2_with fail
              refine wp_region_held_drew (S := (fun w' : World => w'.cell? ⟨w.heap.size, 0, none⟩ = some (.int .i64 (n : Int)) ∧ w'.cell? ⟨w.heap.size, 1, none⟩ = some (.slice A l.length c) ∧ w'.cell? ⟨g5, o5 + q, none⟩ = some (.slice A6 0 c6))) (by kernel_rfl) (by (try dsimp only); simp [*]) (fun hHeld => ?_)
              change wpAnyH _ _ _ _ _ _ #[false, false, false, false, false, false, false, false, false, false, false, false, false, false, false] _ _
              refine wpAnyH_take (i := 0) (oi := ⟨some 30, _, _, _, _, _⟩) (v := ?_) rfl (by kernel_rfl) (by kernel_rfl) (by kernel_rfl) (fun _ _ _ h => h) (Or.inl ⟨by rfl, ?_⟩) (by assumption) ?_
              rotate_left
              · (intro w hSw; (try dsimp only at hSw); go_simp; (try (with_reducible rfl)))
              try simp only [Act.put, List.setIfInBounds_toArray, List.set_cons_zero, List.set_cons_succ]
              refine wpAnyH_take (i := 1) (oi := ⟨some 31, _, _, _, _, _⟩) (v := ?_) rfl (by kernel_rfl) (by kernel_rfl) (by kernel_rfl) (fun _ _ _ h => h) (Or.inl ⟨by rfl, ?_⟩) (by assumption) ?_
              rotate_left
              · (intro w hSw; (try dsimp only at hSw); go_simp; (try (with_reducible rfl)))
              try simp only [Act.put, List.setIfInBounds_toArray, List.set_cons_zero, List.set_cons_succ]
              refine wpAnyH_take (i := 2) (oi := ⟨some 32, _, _, _, _, _⟩) (v := ?_) rfl (by kernel_rfl) (by kernel_rfl) (by kernel_rfl) (fun _ _ _ h => h) (Or.inl ⟨by rfl, ?_⟩) (by assumption) ?_
              rotate_left
              · (intro w hSw; (try dsimp only at hSw); go_simp; (try (with_reducible rfl)))
              try simp only [Act.put, List.setIfInBounds_toArray, List.set_cons_zero, List.set_cons_succ]
              refine wpAnyH_take (i := 3) (oi := ⟨some 33, _, _, _, _, _⟩) (v := ?_) rfl (by kernel_rfl) (by kernel_rfl) (by kernel_rfl) (fun _ _ _ h => h) (Or.inl ⟨by rfl, ?_⟩) (by assumption) ?_
              rotate_left
              · (intro w hSw; (try dsimp only at hSw); go_simp; (try (with_reducible rfl)))
              try simp only [Act.put, List.setIfInBounds_toArray, List.set_cons_zero, List.set_cons_succ]
              refine wpAnyH_take (i := 4) (oi := ⟨some 34, _, _, _, _, _⟩) (v := ?_) rfl (by kernel_rfl) (by kernel_rfl) (by kernel_rfl) (fun _ _ _ h => h) (Or.inl ⟨by rfl, ?_⟩) (by assumption) ?_
              rotate_left
              · (intro w hSw; (try dsimp only at hSw); go_simp; (try (with_reducible rfl)))
              try simp only [Act.put, List.setIfInBounds_toArray, List.set_cons_zero, List.set_cons_succ]
              refine wpAnyH_ready (rs := [5]) (by kernel_rfl) (by simp) ?_
              refine AllReadyH.cons (o := ⟨some 35, _, _, _, _, _⟩) rfl (fun K hK => ?_) AllReadyH.nil
              go_simp
              with_reducible refine HSET.out.mono ?_; rintro e w4 ⟨rfl, b4⟩; have d4 : Below wr.heap.size wr w4 := btrans (Below.refl _ _).drew b4; obtain ⟨k0, k1, -, -⟩ := (HGB.out.below d4 HGB.out.lt).two; have k3 := nearv.cell_keep q5 d4
              go_wp2_with fail
              refine hK.out _ _ (by (try dsimp only); simp [*]) (fun hHeld => ?_)
              clear hK K
              try simp only [List.setIfInBounds_toArray, List.set_cons_zero, List.set_cons_succ]
              refine wpAnyH_take (i := 6) (oi := ⟨some 36, _, _, _, _, _⟩) (v := ?_) rfl (by kernel_rfl) (by kernel_rfl) (by kernel_rfl) (fun _ _ _ h => h) (Or.inl ⟨by rfl, ?_⟩) (by assumption) ?_
              rotate_left
              · (intro w hSw; (try dsimp only at hSw); go_simp; (try (with_reducible rfl)))
              try simp only [Act.put, List.setIfInBounds_toArray, List.set_cons_zero, List.set_cons_succ]
              refine wpAnyH_take (i := 7) (oi := ⟨some 37, _, _, _, _, _⟩) (v := ?_) rfl (by kernel_rfl) (by kernel_rfl) (by kernel_rfl) (fun _ _ _ h => h) (Or.inl ⟨by rfl, ?_⟩) (by assumption) ?_
              rotate_left
              · (intro w hSw; (try dsimp only at hSw); go_simp; (try (with_reducible rfl)))
              try simp only [Act.put, List.setIfInBounds_toArray, List.set_cons_zero, List.set_cons_succ]
              refine wpAnyH_take (i := 8) (oi := ⟨some 38, _, _, _, _, _⟩) (v := ?_) rfl (by kernel_rfl) (by kernel_rfl) (by kernel_rfl) (fun _ _ _ h => h) (Or.inl ⟨by rfl, ?_⟩) (by assumption) ?_
              rotate_left
              · (intro w hSw; (try dsimp only at hSw); go_simp; (try (with_reducible rfl)))
              try simp only [Act.put, List.setIfInBounds_toArray, List.set_cons_zero, List.set_cons_succ]
              refine wpAnyH_take (i := 9) (oi := ⟨some 39, _, _, _, _, _⟩) (v := ?_) rfl (by kernel_rfl) (by kernel_rfl) (by kernel_rfl) (fun _ _ _ h => h) (Or.inl ⟨by rfl, ?_⟩) (by assumption) ?_
              rotate_left
              · (intro w hSw; (try dsimp only at hSw); go_simp; (try (with_reducible rfl)))
              try simp only [Act.put, List.setIfInBounds_toArray, List.set_cons_zero, List.set_cons_succ]
              refine wpAnyH_take (i := 10) (oi := ⟨some 40, _, _, _, _, _⟩) (v := ?_) rfl (by kernel_rfl) (by kernel_rfl) (by kernel_rfl) (fun _ _ _ h => h) (Or.inl ⟨by rfl, ?_⟩) (by assumption) ?_
              rotate_left
              · (intro w hSw; (try dsimp only at hSw); go_simp; (try (with_reducible rfl)))
              try simp only [Act.put, List.setIfInBounds_toArray, List.set_cons_zero, List.set_cons_succ]
              refine wpAnyH_take (i := 11) (oi := ⟨some 41, _, _, _, _, _⟩) (v := ?_) rfl (by kernel_rfl) (by kernel_rfl) (by kernel_rfl) (fun _ _ _ h => h) (Or.inl ⟨by rfl, ?_⟩) (by assumption) ?_
              rotate_left
              · (intro w hSw; (try dsimp only at hSw); go_simp; (try (with_reducible rfl)))
              try simp only [Act.put, List.setIfInBounds_toArray, List.set_cons_zero, List.set_cons_succ]
              refine wpAnyH_take (i := 12) (oi := ⟨some 42, _, _, _, _, _⟩) (v := ?_) rfl (by kernel_rfl) (by kernel_rfl) (by kernel_rfl) (fun _ _ _ h => h) (Or.inl ⟨by rfl, ?_⟩) (by assumption) ?_
              rotate_left
              · (intro w hSw; (try dsimp only at hSw); go_simp; (try (with_reducible rfl)))
              try simp only [Act.put, List.setIfInBounds_toArray, List.set_cons_zero, List.set_cons_succ]
              refine wpAnyH_take (i := 13) (oi := ⟨some 43, _, _, _, _, _⟩) (v := ?_) rfl (by kernel_rfl) (by kernel_rfl) (by kernel_rfl) (fun _ _ _ h => h) (Or.inl ⟨by rfl, ?_⟩) (by assumption) ?_
              rotate_left
              · (intro w hSw; (try dsimp only at hSw); go_simp; (try (with_reducible rfl)))
              try simp only [Act.put, List.setIfInBounds_toArray, List.set_cons_zero, List.set_cons_succ]
              refine wpAnyH_take (i := 14) (oi := ⟨some 44, _, _, _, _, _⟩) (v := ?_) rfl (by kernel_rfl) (by kernel_rfl) (by kernel_rfl) (fun _ _ _ h => h) (Or.inl ⟨by rfl, ?_⟩) (by assumption) ?_
              rotate_left
              · (intro w hSw; (try dsimp only at hSw); go_simp; (try (with_reducible rfl)))
              try simp only [Act.put, List.setIfInBounds_toArray, List.set_cons_zero, List.set_cons_succ]
              refine wpAnyH_done (by kernel_rfl) ?_ _
              go_wp2_with fail
              go_ret2
              exact ⟨retBB3 HV.out.symm HPF.out.symm, btrans HBE.out d4⟩
            · have hd0 : ((r.length : Int) == 0) = false := beq_eq_false_iff_ne.2 (fun e => hr0 (by omega))
              go_wp2_with fail
              refine wp_region_held_drew (S := (fun w' : World => w'.cell? ⟨w.heap.size, 0, none⟩ = some (.int .i64 (n : Int)) ∧ w'.cell? ⟨w.heap.size, 1, none⟩ = some (.slice A l.length c) ∧ w'.cell? ⟨g5, o5 + q, none⟩ = some (.slice A6 r.length c6))) (by kernel_rfl) (by (try dsimp only); simp [*]) (fun hHeld => ?_)
              change wpAnyH _ _ _ _ _ _ #[false, false, false, false, false, false, false, false, false, false, false, false, false, false, false] _ _
              refine wpAnyH_take (i := 0) (oi := ⟨some 30, _, _, _, _, _⟩) (v := ?_) rfl (by kernel_rfl) (by kernel_rfl) (by kernel_rfl) (fun _ _ _ h => h) (Or.inl ⟨by rfl, ?_⟩) (by assumption) ?_
              rotate_left
              · (intro w hSw; (try dsimp only at hSw); go_simp; (try (with_reducible rfl)))
              try simp only [Act.put, List.setIfInBounds_toArray, List.set_cons_zero, List.set_cons_succ]
              refine wpAnyH_take (i := 1) (oi := ⟨some 31, _, _, _, _, _⟩) (v := ?_) rfl (by kernel_rfl) (by kernel_rfl) (by kernel_rfl) (fun _ _ _ h => h) (Or.inl ⟨by rfl, ?_⟩) (by assumption) ?_
              rotate_left
              · (intro w hSw; (try dsimp only at hSw); go_simp; (try (with_reducible rfl)))
              try simp only [Act.put, List.setIfInBounds_toArray, List.set_cons_zero, List.set_cons_succ]
              refine wpAnyH_take (i := 2) (oi := ⟨some 32, _, _, _, _, _⟩) (v := ?_) rfl (by kernel_rfl) (by kernel_rfl) (by kernel_rfl) (fun _ _ _ h => h) (Or.inl ⟨by rfl, ?_⟩) (by assumption) ?_
              rotate_left
              · (intro w hSw; (try dsimp only at hSw); go_simp; (try (with_reducible rfl)))
              try simp only [Act.put, List.setIfInBounds_toArray, List.set_cons_zero, List.set_cons_succ]
              refine wpAnyH_take (i := 3) (oi := ⟨some 33, _, _, _, _, _⟩) (v := ?_) rfl (by kernel_rfl) (by kernel_rfl) (by kernel_rfl) (fun _ _ _ h => h) (Or.inl ⟨by rfl, ?_⟩) (by assumption) ?_
              rotate_left
              · (intro w hSw; (try dsimp only at hSw); go_simp; (try (with_reducible rfl)))
              try simp only [Act.put, List.setIfInBounds_toArray, List.set_cons_zero, List.set_cons_succ]
              refine wpAnyH_take (i := 4) (oi := ⟨some 34, _, _, _, _, _⟩) (v := ?_) rfl (by kernel_rfl) (by kernel_rfl) (by kernel_rfl) (fun _ _ _ h => h) (Or.inl ⟨by rfl, ?_⟩) (by assumption) ?_
              rotate_left
              · (intro w hSw; (try dsimp only at hSw); go_simp; (try (with_reducible rfl)))
              try simp only [Act.put, List.setIfInBounds_toArray, List.set_cons_zero, List.set_cons_succ]
              refine wpAnyH_ready (rs := [5]) (by kernel_rfl) (by simp) ?_
              refine AllReadyH.cons (o := ⟨some 35, _, _, _, _, _⟩) rfl (fun K hK => ?_) AllReadyH.nil
              go_simp
              with_reducible refine HSET.out.mono ?_; rintro e w4 ⟨rfl, b4⟩; have d4 : Below wr.heap.size wr w4 := btrans (Below.refl _ _).drew b4; obtain ⟨k0, k1, -, -⟩ := (HGB.out.below d4 HGB.out.lt).two; have k3 := nearv.cell_keep q5 d4
              go_wp2_with fail
              refine hK.out _ _ (by (try dsimp only); simp [*]) (fun hHeld => ?_)
              clear hK K
              try simp only [List.setIfInBounds_toArray, List.set_cons_zero, List.set_cons_succ]
              refine wpAnyH_take (i := 6) (oi := ⟨some 36, _, _, _, _, _⟩) (v := ?_) rfl (by kernel_rfl) (by kernel_rfl) (by kernel_rfl) (fun _ _ _ h => h) (Or.inl ⟨by rfl, ?_⟩) (by assumption) ?_
              rotate_left
              · (intro w hSw; (try dsimp only at hSw); go_simp; (try (with_reducible rfl)))
              try simp only [Act.put, List.setIfInBounds_toArray, List.set_cons_zero, List.set_cons_succ]
              refine wpAnyH_take (i := 7) (oi := ⟨some 37, _, _, _, _, _⟩) (v := ?_) rfl (by kernel_rfl) (by kernel_rfl) (by kernel_rfl) (fun _ _ _ h => h) (Or.inl ⟨by rfl, ?_⟩) (by assumption) ?_
              rotate_left
              · (intro w hSw; (try dsimp only at hSw); go_simp; (try (with_reducible rfl)))
              try simp only [Act.put, List.setIfInBounds_toArray, List.set_cons_zero, List.set_cons_succ]
              refine wpAnyH_take (i := 8) (oi := ⟨some 38, _, _, _, _, _⟩) (v := ?_) rfl (by kernel_rfl) (by kernel_rfl) (by kernel_rfl) (fun _ _ _ h => h) (Or.inl ⟨by rfl, ?_⟩) (by assumption) ?_
              rotate_left
              · (intro w hSw; (try dsimp only at hSw); go_simp; (try (with_reducible rfl)))
              try simp only [Act.put, List.setIfInBounds_toArray, List.set_cons_zero, List.set_cons_succ]
              refine wpAnyH_take (i := 9) (oi := ⟨some 39, _, _, _, _, _⟩) (v := ?_) rfl (by kernel_rfl) (by kernel_rfl) (by kernel_rfl) (fun _ _ _ h => h) (Or.inl ⟨by rfl, ?_⟩) (by assumption) ?_
              rotate_left
              · (intro w hSw; (try dsimp only at hSw); go_simp; (try (with_reducible rfl)))
              try simp only [Act.put, List.setIfInBounds_toArray, List.set_cons_zero, List.set_cons_succ]
              refine wpAnyH_take (i := 10) (oi := ⟨some 40, _, _, _, _, _⟩) (v := ?_) rfl (by kernel_rfl) (by kernel_rfl) (by kernel_rfl) (fun _ _ _ h => h) (Or.inl ⟨by rfl, ?_⟩) (by assumption) ?_
              rotate_left
              · (intro w hSw; (try dsimp only at hSw); go_simp; (try (with_reducible rfl)))
              try simp only [Act.put, List.setIfInBounds_toArray, List.set_cons_zero, List.set_cons_succ]
              refine wpAnyH_take (i := 11) (oi := ⟨some 41, _, _, _, _, _⟩) (v := ?_) rfl (by kernel_rfl) (by kernel_rfl) (by kernel_rfl) (fun _ _ _ h => h) (Or.inl ⟨by rfl, ?_⟩) (by assumption) ?_
              rotate_left
              · (intro w hSw; (try dsimp only at hSw); go_simp; (try (with_reducible rfl)))
              try simp only [Act.put, List.setIfInBounds_toArray, List.set_cons_zero, List.set_cons_succ]
              refine wpAnyH_take (i := 12) (oi := ⟨some 42, _, _, _, _, _⟩) (v := ?_) rfl (by kernel_rfl) (by kernel_rfl) (by kernel_rfl) (fun _ _ _ h => h) (Or.inl ⟨by rfl, ?_⟩) (by assumption) ?_
              rotate_left
              · (intro w hSw; (try dsimp only at hSw); go_simp; (try (with_reducible rfl)))
              try simp only [Act.put, List.setIfInBounds_toArray, List.set_cons_zero, List.set_cons_succ]
              refine wpAnyH_take (i := 13) (oi := ⟨some 43, _, _, _, _, _⟩) (v := ?_) rfl (by kernel_rfl) (by kernel_rfl) (by kernel_rfl) (fun _ _ _ h => h) (Or.inl ⟨by rfl, ?_⟩) (by assumption) ?_
              rotate_left
              · (intro w hSw; (try dsimp only at hSw); go_simp; (try (with_reducible rfl)))
              try simp only [Act.put, List.setIfInBounds_toArray, List.set_cons_zero, List.set_cons_succ]
              refine wpAnyH_take (i := 14) (oi := ⟨some 44, _, _, _, _, _⟩) (v := ?_) rfl (by kernel_rfl) (by kernel_rfl) (by kernel_rfl) (fun _ _ _ h => h) (Or.inl ⟨by rfl, ?_⟩) (by assumption) ?_
              rotate_left
              · (intro w hSw; (try dsimp only at hSw); go_simp; (try (with_reducible rfl)))
              try simp only [Act.put, List.setIfInBounds_toArray, List.set_cons_zero, List.set_cons_succ]
              refine wpAnyH_done (by kernel_rfl) ?_ _
              have HB4 := Lib.hid (btrans HB.out d4)
              have HL0 := Lib.hid (Below.refl w4.heap.size w4)
              have HY0 : Hid (∀ j y, j < 0 → r[j]? = some y → EvAt l n kk sets q y.toNat) := fun j y hj => by omega
              clear hHeld b4 d4 k0 k1 k3 p0 p1 q5 HSET
              go_wp2_with fail
              go_loopg [10] r.length (fun g iv wr => ∃ i : Nat, i + g = r.length ∧ iv = .int .i64 (i : Int) ∧ Hid (∀ j y, j < i → r[j]? = some y → EvAt l n kk sets q y.toNat) ∧ Below w4.heap.size w4 wr)
              case atStart => exact ⟨0, by omega, rfl, HY0, HL0.out⟩
              case round =>
                clear HY0 HL0
                obtain ⟨i, hig, rfl, hev, hBi⟩ := hrel
                have hb5 := btrans HB4.out hBi
                have hbe := btrans HE3.out hb5
                have q5 := nearv.cell_keep HC5.out hbe
                have HB5 := Lib.hid hb5
                have HBI := Lib.hid hBi
                cases gk with
                | zero =>
                  obtain rfl : i = r.length := by omega
                  have HVL : Hid (∀ q', q' < q + 1 → EvC l n kk sets q') := fun q' hq' => by
                    by_cases e : q' = q
                    · subst e
                      refine ⟨by rw [HGR.out]; exact HSO.out, by rw [HGR.out]; exact fun e => hr0 (by rw [e]; rfl), fun x hx => ?_⟩
                      rw [HGR.out] at hx
                      obtain ⟨j, hj⟩ := List.getElem?_of_mem hx
                      exact hev.out j x (List.getElem?_eq_some_iff.1 hj).1 hj
                    · exact hval.out q' (by omega)
                  clear hb5 hbe hBi
                  go_wp2_with fail
                  go_roundg g2
                  case measure => omega
                  case rel => exact ⟨q + 1, by omega, by go_num, HVL, HB5.out⟩
                | succ g4 =>
                  have hil : i < r.length := by omega
                  have hil' : (i : Int) < (r.length : Int) := by omega
                  obtain ⟨y, hy⟩ : ∃ y, r[i]? = some y := ⟨_, List.getElem?_eq_getElem hil⟩
                  have hyr := HSO.out.2.1 y (List.mem_of_getElem? hy)
                  obtain ⟨_, _, hff, hcc⟩ := HR5.out.form
                  cases hff
                  obtain ⟨g8, o8, rfl, c8⟩ := hcc i y hy
                  have q8 := nearv.cell_keep c8 hbe
                  obtain ⟨x, rfl⟩ : ∃ m : Nat, y = (m : Int) := ⟨y.toNat, by omega⟩
                  have hxn : x < n := by omega
                  have HHY := Lib.hid hy
                  obtain ⟨k0, k1, k2⟩ := blk3 (HK3.out.below hb5 HK3.out.lt)
                  have HKB := Lib.hid (HK3.out.below hb5 HK3.out.lt)
                  have hqP : q < (gameN l n kk).P := by rw [← HP.out]; exact hlt
                  have hS5 := HS3.out.below hb5
                  obtain ⟨u9, g9, o9, hu9, e9, c9, hr9⟩ := hS5.cfgs.row (rowsN_at (cfg_at (n := n) (k := kk) (p := q) hqP))
                  cases e9
                  obtain ⟨A9, k9, rfl, -⟩ := hr9.form
                  have hcl : (castL (cfg n kk q)).length ≤ 1048576 := by rw [castL_len, cfg_len hqP]; omega
                  have HAS := Lib.hid (l1Has_any _ (castL (cfg n kk q)) (x : Int) wr.drew (hr9.below (Below.refl _ _).drew) hcl)
                  rw [mem_cfg] at HAS
                  have HTK : Hid (decide (x ∈ cfg n kk q) = (gameN l n kk).tk q x) := rfl
                  rw [HTK.out] at HAS
                  have HEV := Lib.hid (l4Evades_any n kk q x _ _ _ (.slice (some ⟨g5, o5, none⟩) P c2) uf um ub us sets l wr.drew (hS5.below (Below.refl _ _).drew) (by have h_ := HS2.out.below hbe.drew; rw [HLN.out, ← HP.out] at h_; exact h_) HRW.out HLN.out hn hkk hqP hxn)
                  have HRL : Hid ((rowsN (listsN n kk 0)).length = P) := by show _ = _; rw [rowsN_len, HP.out]; rfl
                  rw [HRL.out] at HEV
                  have HNX : Hid (¬ EvAt l n kk sets q x → okG (EvOk (n : Int) l (kk : Int) sets) = false) := fun hh => HNO.out q hlt (fun hc => hh (by
                    have := hc.2.2 (x : Int) (by rw [HGR.out]; exact List.mem_of_getElem? HHY.out)
                    rwa [Int.toNat_natCast] at this))
                  have HHE : Hid (EvAt l n kk sets q x → (gameN l n kk).tk q x = false) := fun hh => hh.here hqP
                  have HIF := Lib.hid (evB_iff (l := l) (n := n) (k := kk) (sets := sets) (c := q) (x := x))
                  clear hy hcc c8 hu9 hr9 hS5 hbe hb5 hBi HTK hcl
                  cases htk : (gameN l n kk).tk q x with
                  | true =>
                    have HV := Lib.hid (HNX.out (fun hh => by have := HHE.out hh; rw [htk] at this; cases this))
                    rw [htk] at HAS
                    clear htk HEV HIF HHE
                    go_wp2_with fail
                    refine wp_region_held_drew (S := (fun w' : World => w'.cell? ⟨w2.heap.size, 0, none⟩ = some (.slice (some ⟨g9, o9, none⟩) P cf) ∧ w'.cell? ⟨g9, o9 + q, none⟩ = some (.slice A9 (castL (cfg n kk q)).length k9) ∧ w'.cell? ⟨g5, o5 + q, none⟩ = some (.slice (some ⟨g8, o8, none⟩) r.length c6) ∧ w'.cell? ⟨g8, o8 + i, none⟩ = some (.int .i64 (x : Int)))) (by kernel_rfl) (by (try dsimp only); simp [*]) (fun hHeld => ?_)
                    change wpAnyH _ _ _ _ _ _ #[false, false, false, false, false, false, false, false, false, false, false, false, false, false, false, false, false, false, false, false, false, false, false, false, false, false, false] _ _
                    refine wpAnyH_take (i := 0) (oi := ⟨some 54, _, _, _, _, _⟩) (v := ?_) rfl (by kernel_rfl) (by kernel_rfl) (by kernel_rfl) (fun _ _ _ h => h) (Or.inl ⟨by rfl, ?_⟩) (by assumption) ?_
                    rotate_left
                    · (intro w hSw; (try dsimp only at hSw); go_simp; (try (with_reducible rfl)))
                    try simp only [Act.put, List.setIfInBounds_toArray, List.set_cons_zero, List.set_cons_succ]
                    refine wpAnyH_take (i := 1) (oi := ⟨some 55, _, _, _, _, _⟩) (v := ?_) rfl (by kernel_rfl) (by kernel_rfl) (by kernel_rfl) (fun _ _ _ h => h) (Or.inl ⟨by rfl, ?_⟩) (by assumption) ?_
                    rotate_left
                    · (intro w hSw; (try dsimp only at hSw); go_simp; (try (with_reducible rfl)))
                    try simp only [Act.put, List.setIfInBounds_toArray, List.set_cons_zero, List.set_cons_succ]
                    refine wpAnyH_take (i := 2) (oi := ⟨some 56, _, _, _, _, _⟩) (v := ?_) rfl (by kernel_rfl) (by kernel_rfl) (by kernel_rfl) (fun _ _ _ h => h) (Or.inl ⟨by rfl, ?_⟩) (by assumption) ?_
                    rotate_left
                    · (intro w hSw; (try dsimp only at hSw); go_simp; (try (with_reducible rfl)))
                    try simp only [Act.put, List.setIfInBounds_toArray, List.set_cons_zero, List.set_cons_succ]
                    refine wpAnyH_take (i := 3) (oi := ⟨some 57, _, _, _, _, _⟩) (v := ?_) rfl (by kernel_rfl) (by kernel_rfl) (by kernel_rfl) (fun _ _ _ h => h) (Or.inl ⟨by rfl, ?_⟩) (by assumption) ?_
                    rotate_left
                    · (intro w hSw; (try dsimp only at hSw); go_simp; (try (with_reducible rfl)))
                    try simp only [Act.put, List.setIfInBounds_toArray, List.set_cons_zero, List.set_cons_succ]
                    refine wpAnyH_take (i := 4) (oi := ⟨some 58, _, _, _, _, _⟩) (v := ?_) rfl (by kernel_rfl) (by kernel_rfl) (by kernel_rfl) (fun _ _ _ h => h) (Or.inl ⟨by rfl, ?_⟩) (by assumption) ?_
                    rotate_left
                    · (intro w hSw; (try dsimp only at hSw); go_simp; (try (with_reducible rfl)))
                    try simp only [Act.put, List.setIfInBounds_toArray, List.set_cons_zero, List.set_cons_succ]
                    refine wpAnyH_take (i := 5) (oi := ⟨some 59, _, _, _, _, _⟩) (v := ?_) rfl (by kernel_rfl) (by kernel_rfl) (by kernel_rfl) (fun _ _ _ h => h) (Or.inl ⟨by rfl, ?_⟩) (by assumption) ?_
                    rotate_left
                    · (intro w hSw; (try dsimp only at hSw); go_simp; (try (with_reducible rfl)))
                    try simp only [Act.put, List.setIfInBounds_toArray, List.set_cons_zero, List.set_cons_succ]
                    refine wpAnyH_take (i := 6) (oi := ⟨some 60, _, _, _, _, _⟩) (v := ?_) rfl (by kernel_rfl) (by kernel_rfl) (by kernel_rfl) (fun _ _ _ h => h) (Or.inl ⟨by rfl, ?_⟩) (by assumption) ?_
                    rotate_left
                    · (intro w hSw; (try dsimp only at hSw); go_simp; (try (with_reducible rfl)))
                    try simp only [Act.put, List.setIfInBounds_toArray, List.set_cons_zero, List.set_cons_succ]
                    refine wpAnyH_take (i := 7) (oi := ⟨some 61, _, _, _, _, _⟩) (v := ?_) rfl (by kernel_rfl) (by kernel_rfl) (by kernel_rfl) (fun _ _ _ h => h) (Or.inl ⟨by rfl, ?_⟩) (by assumption) ?_
                    rotate_left
                    · (intro w hSw; (try dsimp only at hSw); go_simp; (try (with_reducible rfl)))
                    try simp only [Act.put, List.setIfInBounds_toArray, List.set_cons_zero, List.set_cons_succ]
                    refine wpAnyH_take (i := 8) (oi := ⟨some 62, _, _, _, _, _⟩) (v := ?_) rfl (by kernel_rfl) (by kernel_rfl) (by kernel_rfl) (fun _ _ _ h => h) (Or.inl ⟨by rfl, ?_⟩) (by assumption) ?_
                    rotate_left
                    · (intro w hSw; (try dsimp only at hSw); go_simp; (try (with_reducible rfl)))
                    try simp only [Act.put, List.setIfInBounds_toArray, List.set_cons_zero, List.set_cons_succ]
                    refine wpAnyH_take (i := 9) (oi := ⟨some 63, _, _, _, _, _⟩) (v := ?_) rfl (by kernel_rfl) (by kernel_rfl) (by kernel_rfl) (fun _ _ _ h => h) (Or.inl ⟨by rfl, ?_⟩) (by assumption) ?_
                    rotate_left
                    · (intro w hSw; (try dsimp only at hSw); go_simp; (try (with_reducible rfl)))
                    try simp only [Act.put, List.setIfInBounds_toArray, List.set_cons_zero, List.set_cons_succ]
                    refine wpAnyH_take (i := 10) (oi := ⟨some 64, _, _, _, _, _⟩) (v := ?_) rfl (by kernel_rfl) (by kernel_rfl) (by kernel_rfl) (fun _ _ _ h => h) (Or.inl ⟨by rfl, ?_⟩) (by assumption) ?_
                    rotate_left
                    · (intro w hSw; (try dsimp only at hSw); go_simp; (try (with_reducible rfl)))
                    try simp only [Act.put, List.setIfInBounds_toArray, List.set_cons_zero, List.set_cons_succ]
                    refine wpAnyH_take (i := 11) (oi := ⟨some 65, _, _, _, _, _⟩) (v := ?_) rfl (by kernel_rfl) (by kernel_rfl) (by kernel_rfl) (fun _ _ _ h => h) (Or.inl ⟨by rfl, ?_⟩) (by assumption) ?_
                    rotate_left
                    · (intro w hSw; (try dsimp only at hSw); go_simp; (try (with_reducible rfl)))
                    try simp only [Act.put, List.setIfInBounds_toArray, List.set_cons_zero, List.set_cons_succ]
                    refine wpAnyH_ready (rs := [12]) (by kernel_rfl) (by simp) ?_
                    refine AllReadyH.cons (o := ⟨some 66, _, _, _, _, _⟩) rfl (fun K hK => ?_) AllReadyH.nil
                    go_simp
                    with_reducible refine HAS.out.mono ?_; rintro e w' ⟨rfl, rfl⟩
                    go_wp2_with fail
                    refine hK.out _ _ (by (try dsimp only); simp [*]) (fun hHeld => ?_)
                    clear hK K
                    try simp only [List.setIfInBounds_toArray, List.set_cons_zero, List.set_cons_succ]
                    refine wpAnyH_take (i := 13) (oi := ⟨some 67, _, _, _, _, _⟩) (v := ?_) rfl (by kernel_rfl) (by kernel_rfl) (by kernel_rfl) (fun _ _ _ h => h) (Or.inl ⟨by rfl, ?_⟩) (by assumption) ?_
                    rotate_left
                    · (intro w hSw; (try dsimp only at hSw); go_simp; (try (with_reducible rfl)))
                    try simp only [Act.put, List.setIfInBounds_toArray, List.set_cons_zero, List.set_cons_succ]
                    refine wpAnyH_take (i := 14) (oi := ⟨some 68, _, _, _, _, _⟩) (v := undef) rfl (by kernel_rfl) (by kernel_rfl) (by kernel_rfl) (fun _ _ _ h => h) (Or.inr ⟨by rfl, rfl⟩) (by assumption) ?_
                    try simp only [Act.put, List.setIfInBounds_toArray, List.set_cons_zero, List.set_cons_succ]
                    refine wpAnyH_take (i := 15) (oi := ⟨some 69, _, _, _, _, _⟩) (v := undef) rfl (by kernel_rfl) (by kernel_rfl) (by kernel_rfl) (fun _ _ _ h => h) (Or.inr ⟨by rfl, rfl⟩) (by assumption) ?_
                    try simp only [Act.put, List.setIfInBounds_toArray, List.set_cons_zero, List.set_cons_succ]
                    refine wpAnyH_take (i := 16) (oi := ⟨some 70, _, _, _, _, _⟩) (v := undef) rfl (by kernel_rfl) (by kernel_rfl) (by kernel_rfl) (fun _ _ _ h => h) (Or.inr ⟨by rfl, rfl⟩) (by assumption) ?_
                    try simp only [Act.put, List.setIfInBounds_toArray, List.set_cons_zero, List.set_cons_succ]
                    refine wpAnyH_take (i := 17) (oi := ⟨some 71, _, _, _, _, _⟩) (v := undef) rfl (by kernel_rfl) (by kernel_rfl) (by kernel_rfl) (fun _ _ _ h => h) (Or.inr ⟨by rfl, rfl⟩) (by assumption) ?_
                    try simp only [Act.put, List.setIfInBounds_toArray, List.set_cons_zero, List.set_cons_succ]
                    refine wpAnyH_take (i := 18) (oi := ⟨some 72, _, _, _, _, _⟩) (v := undef) rfl (by kernel_rfl) (by kernel_rfl) (by kernel_rfl) (fun _ _ _ h => h) (Or.inr ⟨by rfl, rfl⟩) (by assumption) ?_
                    try simp only [Act.put, List.setIfInBounds_toArray, List.set_cons_zero, List.set_cons_succ]
                    refine wpAnyH_take (i := 19) (oi := ⟨some 73, _, _, _, _, _⟩) (v := undef) rfl (by kernel_rfl) (by kernel_rfl) (by kernel_rfl) (fun _ _ _ h => h) (Or.inr ⟨by rfl, rfl⟩) (by assumption) ?_
                    try simp only [Act.put, List.setIfInBounds_toArray, List.set_cons_zero, List.set_cons_succ]
                    refine wpAnyH_take (i := 20) (oi := ⟨some 74, _, _, _, _, _⟩) (v := undef) rfl (by kernel_rfl) (by kernel_rfl) (by kernel_rfl) (fun _ _ _ h => h) (Or.inr ⟨by rfl, rfl⟩) (by assumption) ?_
                    try simp only [Act.put, List.setIfInBounds_toArray, List.set_cons_zero, List.set_cons_succ]
                    refine wpAnyH_take (i := 21) (oi := ⟨some 75, _, _, _, _, _⟩) (v := undef) rfl (by kernel_rfl) (by kernel_rfl) (by kernel_rfl) (fun _ _ _ h => h) (Or.inr ⟨by rfl, rfl⟩) (by assumption) ?_
                    try simp only [Act.put, List.setIfInBounds_toArray, List.set_cons_zero, List.set_cons_succ]
                    refine wpAnyH_take (i := 22) (oi := ⟨some 76, _, _, _, _, _⟩) (v := undef) rfl (by kernel_rfl) (by kernel_rfl) (by kernel_rfl) (fun _ _ _ h => h) (Or.inr ⟨by rfl, rfl⟩) (by assumption) ?_
                    try simp only [Act.put, List.setIfInBounds_toArray, List.set_cons_zero, List.set_cons_succ]
                    refine wpAnyH_take (i := 23) (oi := ⟨some 77, _, _, _, _, _⟩) (v := undef) rfl (by kernel_rfl) (by kernel_rfl) (by kernel_rfl) (fun _ _ _ h => h) (Or.inr ⟨by rfl, rfl⟩) (by assumption) ?_
                    try simp only [Act.put, List.setIfInBounds_toArray, List.set_cons_zero, List.set_cons_succ]
                    refine wpAnyH_take (i := 24) (oi := ⟨some 78, _, _, _, _, _⟩) (v := undef) rfl (by kernel_rfl) (by kernel_rfl) (by kernel_rfl) (fun _ _ _ h => h) (Or.inr ⟨by rfl, rfl⟩) (by assumption) ?_
                    try simp only [Act.put, List.setIfInBounds_toArray, List.set_cons_zero, List.set_cons_succ]
                    refine wpAnyH_take (i := 25) (oi := ⟨some 79, _, _, _, _, _⟩) (v := undef) rfl (by kernel_rfl) (by kernel_rfl) (by kernel_rfl) (fun _ _ _ h => h) (Or.inr ⟨by rfl, rfl⟩) (by assumption) ?_
                    try simp only [Act.put, List.setIfInBounds_toArray, List.set_cons_zero, List.set_cons_succ]
                    refine wpAnyH_take (i := 26) (oi := ⟨some 80, _, _, _, _, _⟩) (v := ?_) rfl (by kernel_rfl) (by kernel_rfl) (by kernel_rfl) (fun _ _ _ h => h) (Or.inl ⟨by rfl, ?_⟩) (by assumption) ?_
                    rotate_left
                    · (intro w hSw; (try dsimp only at hSw); go_simp; (try (with_reducible rfl)))
                    try simp only [Act.put, List.setIfInBounds_toArray, List.set_cons_zero, List.set_cons_succ]
                    refine wpAnyH_done (by kernel_rfl) ?_ _
                    clear hHeld k0 k1 k2 q5 q8 c9
                    go_wp2_with fail
                    go_ret2
                    exact ⟨retBB3 HV.out.symm HPF.out.symm, (btrans HE3.out HB5.out).drew⟩
                  | false =>
                    rw [htk] at HAS
                    clear htk HHE
                    generalize hbq : evB l n kk sets q x = bq at *
                    clear hbq
                    cases bq with
                    | false =>
                      have HV := Lib.hid (HNX.out (fun hh => by have := HIF.out.2 hh; cases this))
                      go_wp2_with fail
                      refine wp_region_held_drew (S := (fun w' : World => w'.cell? ⟨w2.heap.size, 0, none⟩ = some (.slice (some ⟨g9, o9, none⟩) P cf) ∧ w'.cell? ⟨w2.heap.size, 1, none⟩ = some (.slice Am P cm) ∧ w'.cell? ⟨w2.heap.size, 2, none⟩ = some (.slice Ab n cb) ∧ w'.cell? ⟨g9, o9 + q, none⟩ = some (.slice A9 (castL (cfg n kk q)).length k9) ∧ w'.cell? ⟨g5, o5 + q, none⟩ = some (.slice (some ⟨g8, o8, none⟩) r.length c6) ∧ w'.cell? ⟨g8, o8 + i, none⟩ = some (.int .i64 (x : Int)))) (by kernel_rfl) (by (try dsimp only); simp [*]) (fun hHeld => ?_)
                      change wpAnyH _ _ _ _ _ _ #[false, false, false, false, false, false, false, false, false, false, false, false, false, false, false, false, false, false, false, false, false, false, false, false, false, false, false] _ _
                      refine wpAnyH_take (i := 0) (oi := ⟨some 54, _, _, _, _, _⟩) (v := ?_) rfl (by kernel_rfl) (by kernel_rfl) (by kernel_rfl) (fun _ _ _ h => h) (Or.inl ⟨by rfl, ?_⟩) (by assumption) ?_
                      rotate_left
                      · (intro w hSw; (try dsimp only at hSw); go_simp; (try (with_reducible rfl)))
                      try simp only [Act.put, List.setIfInBounds_toArray, List.set_cons_zero, List.set_cons_succ]
                      refine wpAnyH_take (i := 1) (oi := ⟨some 55, _, _, _, _, _⟩) (v := ?_) rfl (by kernel_rfl) (by kernel_rfl) (by kernel_rfl) (fun _ _ _ h => h) (Or.inl ⟨by rfl, ?_⟩) (by assumption) ?_
                      rotate_left
                      · (intro w hSw; (try dsimp only at hSw); go_simp; (try (with_reducible rfl)))
                      try simp only [Act.put, List.setIfInBounds_toArray, List.set_cons_zero, List.set_cons_succ]
                      refine wpAnyH_take (i := 2) (oi := ⟨some 56, _, _, _, _, _⟩) (v := ?_) rfl (by kernel_rfl) (by kernel_rfl) (by kernel_rfl) (fun _ _ _ h => h) (Or.inl ⟨by rfl, ?_⟩) (by assumption) ?_
                      rotate_left
                      · (intro w hSw; (try dsimp only at hSw); go_simp; (try (with_reducible rfl)))
                      try simp only [Act.put, List.setIfInBounds_toArray, List.set_cons_zero, List.set_cons_succ]
                      refine wpAnyH_take (i := 3) (oi := ⟨some 57, _, _, _, _, _⟩) (v := ?_) rfl (by kernel_rfl) (by kernel_rfl) (by kernel_rfl) (fun _ _ _ h => h) (Or.inl ⟨by rfl, ?_⟩) (by assumption) ?_
                      rotate_left
                      · (intro w hSw; (try dsimp only at hSw); go_simp; (try (with_reducible rfl)))
                      try simp only [Act.put, List.setIfInBounds_toArray, List.set_cons_zero, List.set_cons_succ]
                      refine wpAnyH_take (i := 4) (oi := ⟨some 58, _, _, _, _, _⟩) (v := ?_) rfl (by kernel_rfl) (by kernel_rfl) (by kernel_rfl) (fun _ _ _ h => h) (Or.inl ⟨by rfl, ?_⟩) (by assumption) ?_
                      rotate_left
                      · (intro w hSw; (try dsimp only at hSw); go_simp; (try (with_reducible rfl)))
                      try simp only [Act.put, List.setIfInBounds_toArray, List.set_cons_zero, List.set_cons_succ]
                      refine wpAnyH_take (i := 5) (oi := ⟨some 59, _, _, _, _, _⟩) (v := ?_) rfl (by kernel_rfl) (by kernel_rfl) (by kernel_rfl) (fun _ _ _ h => h) (Or.inl ⟨by rfl, ?_⟩) (by assumption) ?_
                      rotate_left
                      · (intro w hSw; (try dsimp only at hSw); go_simp; (try (with_reducible rfl)))
                      try simp only [Act.put, List.setIfInBounds_toArray, List.set_cons_zero, List.set_cons_succ]
                      refine wpAnyH_take (i := 6) (oi := ⟨some 60, _, _, _, _, _⟩) (v := ?_) rfl (by kernel_rfl) (by kernel_rfl) (by kernel_rfl) (fun _ _ _ h => h) (Or.inl ⟨by rfl, ?_⟩) (by assumption) ?_
                      rotate_left
                      · (intro w hSw; (try dsimp only at hSw); go_simp; (try (with_reducible rfl)))
                      try simp only [Act.put, List.setIfInBounds_toArray, List.set_cons_zero, List.set_cons_succ]
                      refine wpAnyH_take (i := 7) (oi := ⟨some 61, _, _, _, _, _⟩) (v := ?_) rfl (by kernel_rfl) (by kernel_rfl) (by kernel_rfl) (fun _ _ _ h => h) (Or.inl ⟨by rfl, ?_⟩) (by assumption) ?_
                      rotate_left
                      · (intro w hSw; (try dsimp only at hSw); go_simp; (try (with_reducible rfl)))
                      try simp only [Act.put, List.setIfInBounds_toArray, List.set_cons_zero, List.set_cons_succ]
                      refine wpAnyH_take (i := 8) (oi := ⟨some 62, _, _, _, _, _⟩) (v := ?_) rfl (by kernel_rfl) (by kernel_rfl) (by kernel_rfl) (fun _ _ _ h => h) (Or.inl ⟨by rfl, ?_⟩) (by assumption) ?_
                      rotate_left
                      · (intro w hSw; (try dsimp only at hSw); go_simp; (try (with_reducible rfl)))
                      try simp only [Act.put, List.setIfInBounds_toArray, List.set_cons_zero, List.set_cons_succ]
                      refine wpAnyH_take (i := 9) (oi := ⟨some 63, _, _, _, _, _⟩) (v := ?_) rfl (by kernel_rfl) (by kernel_rfl) (by kernel_rfl) (fun _ _ _ h => h) (Or.inl ⟨by rfl, ?_⟩) (by assumption) ?_
                      rotate_left
                      · (intro w hSw; (try dsimp only at hSw); go_simp; (try (with_reducible rfl)))
                      try simp only [Act.put, List.setIfInBounds_toArray, List.set_cons_zero, List.set_cons_succ]
                      refine wpAnyH_take (i := 10) (oi := ⟨some 64, _, _, _, _, _⟩) (v := ?_) rfl (by kernel_rfl) (by kernel_rfl) (by kernel_rfl) (fun _ _ _ h => h) (Or.inl ⟨by rfl, ?_⟩) (by assumption) ?_
                      rotate_left
                      · (intro w hSw; (try dsimp only at hSw); go_simp; (try (with_reducible rfl)))
                      try simp only [Act.put, List.setIfInBounds_toArray, List.set_cons_zero, List.set_cons_succ]
                      refine wpAnyH_take (i := 11) (oi := ⟨some 65, _, _, _, _, _⟩) (v := ?_) rfl (by kernel_rfl) (by kernel_rfl) (by kernel_rfl) (fun _ _ _ h => h) (Or.inl ⟨by rfl, ?_⟩) (by assumption) ?_
                      rotate_left
                      · (intro w hSw; (try dsimp only at hSw); go_simp; (try (with_reducible rfl)))
                      try simp only [Act.put, List.setIfInBounds_toArray, List.set_cons_zero, List.set_cons_succ]
                      refine wpAnyH_ready (rs := [12]) (by kernel_rfl) (by simp) ?_
                      refine AllReadyH.cons (o := ⟨some 66, _, _, _, _, _⟩) rfl (fun K hK => ?_) AllReadyH.nil
                      go_simp
                      with_reducible refine HAS.out.mono ?_; rintro e w' ⟨rfl, rfl⟩
                      go_wp2_with fail
                      refine hK.out _ _ (by (try dsimp only); simp [*]) (fun hHeld => ?_)
                      clear hK K
                      try simp only [List.setIfInBounds_toArray, List.set_cons_zero, List.set_cons_succ]
                      refine wpAnyH_take (i := 13) (oi := ⟨some 67, _, _, _, _, _⟩) (v := ?_) rfl (by kernel_rfl) (by kernel_rfl) (by kernel_rfl) (fun _ _ _ h => h) (Or.inl ⟨by rfl, ?_⟩) (by assumption) ?_
                      rotate_left
                      · (intro w hSw; (try dsimp only at hSw); go_simp; (try (with_reducible rfl)))
                      try simp only [Act.put, List.setIfInBounds_toArray, List.set_cons_zero, List.set_cons_succ]
                      refine wpAnyH_take (i := 14) (oi := ⟨some 68, _, _, _, _, _⟩) (v := ?_) rfl (by kernel_rfl) (by kernel_rfl) (by kernel_rfl) (fun _ _ _ h => h) (Or.inl ⟨by rfl, ?_⟩) (by assumption) ?_
                      rotate_left
                      · (intro w hSw; (try dsimp only at hSw); go_simp; (try (with_reducible rfl)))
                      try simp only [Act.put, List.setIfInBounds_toArray, List.set_cons_zero, List.set_cons_succ]
                      refine wpAnyH_take (i := 15) (oi := ⟨some 69, _, _, _, _, _⟩) (v := ?_) rfl (by kernel_rfl) (by kernel_rfl) (by kernel_rfl) (fun _ _ _ h => h) (Or.inl ⟨by rfl, ?_⟩) (by assumption) ?_
                      rotate_left
                      · (intro w hSw; (try dsimp only at hSw); go_simp; (try (with_reducible rfl)))
                      try simp only [Act.put, List.setIfInBounds_toArray, List.set_cons_zero, List.set_cons_succ]
                      refine wpAnyH_take (i := 16) (oi := ⟨some 70, _, _, _, _, _⟩) (v := ?_) rfl (by kernel_rfl) (by kernel_rfl) (by kernel_rfl) (fun _ _ _ h => h) (Or.inl ⟨by rfl, ?_⟩) (by assumption) ?_
                      rotate_left
                      · (intro w hSw; (try dsimp only at hSw); go_simp; (try (with_reducible rfl)))
                      try simp only [Act.put, List.setIfInBounds_toArray, List.set_cons_zero, List.set_cons_succ]
                      refine wpAnyH_take (i := 17) (oi := ⟨some 71, _, _, _, _, _⟩) (v := ?_) rfl (by kernel_rfl) (by kernel_rfl) (by kernel_rfl) (fun _ _ _ h => h) (Or.inl ⟨by rfl, ?_⟩) (by assumption) ?_
                      rotate_left
                      · (intro w hSw; (try dsimp only at hSw); go_simp; (try (with_reducible rfl)))
                      try simp only [Act.put, List.setIfInBounds_toArray, List.set_cons_zero, List.set_cons_succ]
                      refine wpAnyH_take (i := 18) (oi := ⟨some 72, _, _, _, _, _⟩) (v := ?_) rfl (by kernel_rfl) (by kernel_rfl) (by kernel_rfl) (fun _ _ _ h => h) (Or.inl ⟨by rfl, ?_⟩) (by assumption) ?_
                      rotate_left
                      · (intro w hSw; (try dsimp only at hSw); go_simp; (try (with_reducible rfl)))
                      try simp only [Act.put, List.setIfInBounds_toArray, List.set_cons_zero, List.set_cons_succ]
                      refine wpAnyH_take (i := 19) (oi := ⟨some 73, _, _, _, _, _⟩) (v := ?_) rfl (by kernel_rfl) (by kernel_rfl) (by kernel_rfl) (fun _ _ _ h => h) (Or.inl ⟨by rfl, ?_⟩) (by assumption) ?_
                      rotate_left
                      · (intro w hSw; (try dsimp only at hSw); go_simp; (try (with_reducible rfl)))
                      try simp only [Act.put, List.setIfInBounds_toArray, List.set_cons_zero, List.set_cons_succ]
                      refine wpAnyH_take (i := 20) (oi := ⟨some 74, _, _, _, _, _⟩) (v := ?_) rfl (by kernel_rfl) (by kernel_rfl) (by kernel_rfl) (fun _ _ _ h => h) (Or.inl ⟨by rfl, ?_⟩) (by assumption) ?_
                      rotate_left
                      · (intro w hSw; (try dsimp only at hSw); go_simp; (try (with_reducible rfl)))
                      try simp only [Act.put, List.setIfInBounds_toArray, List.set_cons_zero, List.set_cons_succ]
                      refine wpAnyH_take (i := 21) (oi := ⟨some 75, _, _, _, _, _⟩) (v := ?_) rfl (by kernel_rfl) (by kernel_rfl) (by kernel_rfl) (fun _ _ _ h => h) (Or.inl ⟨by rfl, ?_⟩) (by assumption) ?_
                      rotate_left
                      · (intro w hSw; (try dsimp only at hSw); go_simp; (try (with_reducible rfl)))
                      try simp only [Act.put, List.setIfInBounds_toArray, List.set_cons_zero, List.set_cons_succ]
                      refine wpAnyH_take (i := 22) (oi := ⟨some 76, _, _, _, _, _⟩) (v := ?_) rfl (by kernel_rfl) (by kernel_rfl) (by kernel_rfl) (fun _ _ _ h => h) (Or.inl ⟨by rfl, ?_⟩) (by assumption) ?_
                      rotate_left
                      · (intro w hSw; (try dsimp only at hSw); go_simp; (try (with_reducible rfl)))
                      try simp only [Act.put, List.setIfInBounds_toArray, List.set_cons_zero, List.set_cons_succ]
                      refine wpAnyH_take (i := 23) (oi := ⟨some 77, _, _, _, _, _⟩) (v := ?_) rfl (by kernel_rfl) (by kernel_rfl) (by kernel_rfl) (fun _ _ _ h => h) (Or.inl ⟨by rfl, ?_⟩) (by assumption) ?_
                      rotate_left
                      · (intro w hSw; (try dsimp only at hSw); go_simp; (try (with_reducible rfl)))
                      try simp only [Act.put, List.setIfInBounds_toArray, List.set_cons_zero, List.set_cons_succ]
                      refine wpAnyH_ready (rs := [24]) (by kernel_rfl) (by simp) ?_
                      refine AllReadyH.cons (o := ⟨some 78, _, _, _, _, _⟩) rfl (fun K hK => ?_) AllReadyH.nil
                      go_simp
                      with_reducible refine HEV.out.mono ?_; rintro e w6 ⟨rfl, b6⟩; have d6 : Below wr.heap.size wr w6 := btrans (Below.refl _ _).drew b6; obtain ⟨j0, j1, j2⟩ := blk3 (HKB.out.below d6 HKB.out.lt); have j3 := nearv.cell_keep c9 d6; have j4 := nearv.cell_keep q5 d6; have j5 := nearv.cell_keep q8 d6
                      go_wp2_with fail
                      refine hK.out _ _ (by (try dsimp only); simp [*]) (fun hHeld => ?_)
                      clear hK K
                      try simp only [List.setIfInBounds_toArray, List.set_cons_zero, List.set_cons_succ]
                      refine wpAnyH_take (i := 25) (oi := ⟨some 79, _, _, _, _, _⟩) (v := ?_) rfl (by kernel_rfl) (by kernel_rfl) (by kernel_rfl) (fun _ _ _ h => h) (Or.inl ⟨by rfl, ?_⟩) (by assumption) ?_
                      rotate_left
                      · (intro w hSw; (try dsimp only at hSw); go_simp; (try (with_reducible rfl)))
                      try simp only [Act.put, List.setIfInBounds_toArray, List.set_cons_zero, List.set_cons_succ]
                      refine wpAnyH_take (i := 26) (oi := ⟨some 80, _, _, _, _, _⟩) (v := ?_) rfl (by kernel_rfl) (by kernel_rfl) (by kernel_rfl) (fun _ _ _ h => h) (Or.inl ⟨by rfl, ?_⟩) (by assumption) ?_
                      rotate_left
                      · (intro w hSw; (try dsimp only at hSw); go_simp; (try (with_reducible rfl)))
                      try simp only [Act.put, List.setIfInBounds_toArray, List.set_cons_zero, List.set_cons_succ]
                      refine wpAnyH_done (by kernel_rfl) ?_ _
                      clear hHeld k0 k1 k2 q5 q8 c9 j0 j1 j2 j3 j4 j5
                      go_wp2_with fail
                      go_ret2
                      exact ⟨retBB3 HV.out.symm HPF.out.symm, btrans (btrans HE3.out HB5.out) d6⟩
                    | true =>
                      have HAT := Lib.hid (HIF.out.1 rfl)
                      have HEV2 : Hid (∀ j y, j < i + 1 → r[j]? = some y → EvAt l n kk sets q y.toNat) := fun j y hj hjy => by
                        by_cases e : j = i
                        · subst e; rw [HHY.out] at hjy; cases hjy; rw [Int.toNat_natCast]; exact HAT.out
                        · exact hev.out j y (by omega) hjy
                      go_wp2_with fail
                      refine wp_region_held_drew (S := (fun w' : World => w'.cell? ⟨w2.heap.size, 0, none⟩ = some (.slice (some ⟨g9, o9, none⟩) P cf) ∧ w'.cell? ⟨w2.heap.size, 1, none⟩ = some (.slice Am P cm) ∧ w'.cell? ⟨w2.heap.size, 2, none⟩ = some (.slice Ab n cb) ∧ w'.cell? ⟨g9, o9 + q, none⟩ = some (.slice A9 (castL (cfg n kk q)).length k9) ∧ w'.cell? ⟨g5, o5 + q, none⟩ = some (.slice (some ⟨g8, o8, none⟩) r.length c6) ∧ w'.cell? ⟨g8, o8 + i, none⟩ = some (.int .i64 (x : Int)))) (by kernel_rfl) (by (try dsimp only); simp [*]) (fun hHeld => ?_)
                      change wpAnyH _ _ _ _ _ _ #[false, false, false, false, false, false, false, false, false, false, false, false, false, false, false, false, false, false, false, false, false, false, false, false, false, false, false] _ _
                      refine wpAnyH_take (i := 0) (oi := ⟨some 54, _, _, _, _, _⟩) (v := ?_) rfl (by kernel_rfl) (by kernel_rfl) (by kernel_rfl) (fun _ _ _ h => h) (Or.inl ⟨by rfl, ?_⟩) (by assumption) ?_
                      rotate_left
                      · (intro w hSw; (try dsimp only at hSw); go_simp; (try (with_reducible rfl)))
                      try simp only [Act.put, List.setIfInBounds_toArray, List.set_cons_zero, List.set_cons_succ]
                      refine wpAnyH_take (i := 1) (oi := ⟨some 55, _, _, _, _, _⟩) (v := ?_) rfl (by kernel_rfl) (by kernel_rfl) (by kernel_rfl) (fun _ _ _ h => h) (Or.inl ⟨by rfl, ?_⟩) (by assumption) ?_
                      rotate_left
                      · (intro w hSw; (try dsimp only at hSw); go_simp; (try (with_reducible rfl)))
                      try simp only [Act.put, List.setIfInBounds_toArray, List.set_cons_zero, List.set_cons_succ]
                      refine wpAnyH_take (i := 2) (oi := ⟨some 56, _, _, _, _, _⟩) (v := ?_) rfl (by kernel_rfl) (by kernel_rfl) (by kernel_rfl) (fun _ _ _ h => h) (Or.inl ⟨by rfl, ?_⟩) (by assumption) ?_
                      rotate_left
                      · (intro w hSw; (try dsimp only at hSw); go_simp; (try (with_reducible rfl)))
                      try simp only [Act.put, List.setIfInBounds_toArray, List.set_cons_zero, List.set_cons_succ]
                      refine wpAnyH_take (i := 3) (oi := ⟨some 57, _, _, _, _, _⟩) (v := ?_) rfl (by kernel_rfl) (by kernel_rfl) (by kernel_rfl) (fun _ _ _ h => h) (Or.inl ⟨by rfl, ?_⟩) (by assumption) ?_
                      rotate_left
                      · (intro w hSw; (try dsimp only at hSw); go_simp; (try (with_reducible rfl)))
                      try simp only [Act.put, List.setIfInBounds_toArray, List.set_cons_zero, List.set_cons_succ]
                      refine wpAnyH_take (i := 4) (oi := ⟨some 58, _, _, _, _, _⟩) (v := ?_) rfl (by kernel_rfl) (by kernel_rfl) (by kernel_rfl) (fun _ _ _ h => h) (Or.inl ⟨by rfl, ?_⟩) (by assumption) ?_
                      rotate_left
                      · (intro w hSw; (try dsimp only at hSw); go_simp; (try (with_reducible rfl)))
                      try simp only [Act.put, List.setIfInBounds_toArray, List.set_cons_zero, List.set_cons_succ]
                      refine wpAnyH_take (i := 5) (oi := ⟨some 59, _, _, _, _, _⟩) (v := ?_) rfl (by kernel_rfl) (by kernel_rfl) (by kernel_rfl) (fun _ _ _ h => h) (Or.inl ⟨by rfl, ?_⟩) (by assumption) ?_
                      rotate_left
                      · (intro w hSw; (try dsimp only at hSw); go_simp; (try (with_reducible rfl)))
                      try simp only [Act.put, List.setIfInBounds_toArray, List.set_cons_zero, List.set_cons_succ]
                      refine wpAnyH_take (i := 6) (oi := ⟨some 60, _, _, _, _, _⟩) (v := ?_) rfl (by kernel_rfl) (by kernel_rfl) (by kernel_rfl) (fun _ _ _ h => h) (Or.inl ⟨by rfl, ?_⟩) (by assumption) ?_
                      rotate_left
                      · (intro w hSw; (try dsimp only at hSw); go_simp; (try (with_reducible rfl)))
                      try simp only [Act.put, List.setIfInBounds_toArray, List.set_cons_zero, List.set_cons_succ]
                      refine wpAnyH_take (i := 7) (oi := ⟨some 61, _, _, _, _, _⟩) (v := ?_) rfl (by kernel_rfl) (by kernel_rfl) (by kernel_rfl) (fun _ _ _ h => h) (Or.inl ⟨by rfl, ?_⟩) (by assumption) ?_
                      rotate_left
                      · (intro w hSw; (try dsimp only at hSw); go_simp; (try (with_reducible rfl)))
                      try simp only [Act.put, List.setIfInBounds_toArray, List.set_cons_zero, List.set_cons_succ]
                      refine wpAnyH_take (i := 8) (oi := ⟨some 62, _, _, _, _, _⟩) (v := ?_) rfl (by kernel_rfl) (by kernel_rfl) (by kernel_rfl) (fun _ _ _ h => h) (Or.inl ⟨by rfl, ?_⟩) (by assumption) ?_
                      rotate_left
                      · (intro w hSw; (try dsimp only at hSw); go_simp; (try (with_reducible rfl)))
                      try simp only [Act.put, List.setIfInBounds_toArray, List.set_cons_zero, List.set_cons_succ]
                      refine wpAnyH_take (i := 9) (oi := ⟨some 63, _, _, _, _, _⟩) (v := ?_) rfl (by kernel_rfl) (by kernel_rfl) (by kernel_rfl) (fun _ _ _ h => h) (Or.inl ⟨by rfl, ?_⟩) (by assumption) ?_
                      rotate_left
                      · (intro w hSw; (try dsimp only at hSw); go_simp; (try (with_reducible rfl)))
                      try simp only [Act.put, List.setIfInBounds_toArray, List.set_cons_zero, List.set_cons_succ]
                      refine wpAnyH_take (i := 10) (oi := ⟨some 64, _, _, _, _, _⟩) (v := ?_) rfl (by kernel_rfl) (by kernel_rfl) (by kernel_rfl) (fun _ _ _ h => h) (Or.inl ⟨by rfl, ?_⟩) (by assumption) ?_
                      rotate_left
                      · (intro w hSw; (try dsimp only at hSw); go_simp; (try (with_reducible rfl)))
                      try simp only [Act.put, List.setIfInBounds_toArray, List.set_cons_zero, List.set_cons_succ]
                      refine wpAnyH_take (i := 11) (oi := ⟨some 65, _, _, _, _, _⟩) (v := ?_) rfl (by kernel_rfl) (by kernel_rfl) (by kernel_rfl) (fun _ _ _ h => h) (Or.inl ⟨by rfl, ?_⟩) (by assumption) ?_
                      rotate_left
                      · (intro w hSw; (try dsimp only at hSw); go_simp; (try (with_reducible rfl)))
                      try simp only [Act.put, List.setIfInBounds_toArray, List.set_cons_zero, List.set_cons_succ]
                      refine wpAnyH_ready (rs := [12]) (by kernel_rfl) (by simp) ?_
                      refine AllReadyH.cons (o := ⟨some 66, _, _, _, _, _⟩) rfl (fun K hK => ?_) AllReadyH.nil
                      go_simp
                      with_reducible refine HAS.out.mono ?_; rintro e w' ⟨rfl, rfl⟩
                      go_wp2_with fail
                      refine hK.out _ _ (by (try dsimp only); simp [*]) (fun hHeld => ?_)
                      clear hK K
                      try simp only [List.setIfInBounds_toArray, List.set_cons_zero, List.set_cons_succ]
                      refine wpAnyH_take (i := 13) (oi := ⟨some 67, _, _, _, _, _⟩) (v := ?_) rfl (by kernel_rfl) (by kernel_rfl) (by kernel_rfl) (fun _ _ _ h => h) (Or.inl ⟨by rfl, ?_⟩) (by assumption) ?_
                      rotate_left
                      · (intro w hSw; (try dsimp only at hSw); go_simp; (try (with_reducible rfl)))
                      try simp only [Act.put, List.setIfInBounds_toArray, List.set_cons_zero, List.set_cons_succ]
                      refine wpAnyH_take (i := 14) (oi := ⟨some 68, _, _, _, _, _⟩) (v := ?_) rfl (by kernel_rfl) (by kernel_rfl) (by kernel_rfl) (fun _ _ _ h => h) (Or.inl ⟨by rfl, ?_⟩) (by assumption) ?_
                      rotate_left
                      · (intro w hSw; (try dsimp only at hSw); go_simp; (try (with_reducible rfl)))
                      try simp only [Act.put, List.setIfInBounds_toArray, List.set_cons_zero, List.set_cons_succ]
                      refine wpAnyH_take (i := 15) (oi := ⟨some 69, _, _, _, _, _⟩) (v := ?_) rfl (by kernel_rfl) (by kernel_rfl) (by kernel_rfl) (fun _ _ _ h => h) (Or.inl ⟨by rfl, ?_⟩) (by assumption) ?_
                      rotate_left
                      · (intro w hSw; (try dsimp only at hSw); go_simp; (try (with_reducible rfl)))
                      try simp only [Act.put, List.setIfInBounds_toArray, List.set_cons_zero, List.set_cons_succ]
                      refine wpAnyH_take (i := 16) (oi := ⟨some 70, _, _, _, _, _⟩) (v := ?_) rfl (by kernel_rfl) (by kernel_rfl) (by kernel_rfl) (fun _ _ _ h => h) (Or.inl ⟨by rfl, ?_⟩) (by assumption) ?_
                      rotate_left
                      · (intro w hSw; (try dsimp only at hSw); go_simp; (try (with_reducible rfl)))
                      try simp only [Act.put, List.setIfInBounds_toArray, List.set_cons_zero, List.set_cons_succ]
                      refine wpAnyH_take (i := 17) (oi := ⟨some 71, _, _, _, _, _⟩) (v := ?_) rfl (by kernel_rfl) (by kernel_rfl) (by kernel_rfl) (fun _ _ _ h => h) (Or.inl ⟨by rfl, ?_⟩) (by assumption) ?_
                      rotate_left
                      · (intro w hSw; (try dsimp only at hSw); go_simp; (try (with_reducible rfl)))
                      try simp only [Act.put, List.setIfInBounds_toArray, List.set_cons_zero, List.set_cons_succ]
                      refine wpAnyH_take (i := 18) (oi := ⟨some 72, _, _, _, _, _⟩) (v := ?_) rfl (by kernel_rfl) (by kernel_rfl) (by kernel_rfl) (fun _ _ _ h => h) (Or.inl ⟨by rfl, ?_⟩) (by assumption) ?_
                      rotate_left
                      · (intro w hSw; (try dsimp only at hSw); go_simp; (try (with_reducible rfl)))
                      try simp only [Act.put, List.setIfInBounds_toArray, List.set_cons_zero, List.set_cons_succ]
                      refine wpAnyH_take (i := 19) (oi := ⟨some 73, _, _, _, _, _⟩) (v := ?_) rfl (by kernel_rfl) (by kernel_rfl) (by kernel_rfl) (fun _ _ _ h => h) (Or.inl ⟨by rfl, ?_⟩) (by assumption) ?_
                      rotate_left
                      · (intro w hSw; (try dsimp only at hSw); go_simp; (try (with_reducible rfl)))
                      try simp only [Act.put, List.setIfInBounds_toArray, List.set_cons_zero, List.set_cons_succ]
                      refine wpAnyH_take (i := 20) (oi := ⟨some 74, _, _, _, _, _⟩) (v := ?_) rfl (by kernel_rfl) (by kernel_rfl) (by kernel_rfl) (fun _ _ _ h => h) (Or.inl ⟨by rfl, ?_⟩) (by assumption) ?_
                      rotate_left
                      · (intro w hSw; (try dsimp only at hSw); go_simp; (try (with_reducible rfl)))
                      try simp only [Act.put, List.setIfInBounds_toArray, List.set_cons_zero, List.set_cons_succ]
                      refine wpAnyH_take (i := 21) (oi := ⟨some 75, _, _, _, _, _⟩) (v := ?_) rfl (by kernel_rfl) (by kernel_rfl) (by kernel_rfl) (fun _ _ _ h => h) (Or.inl ⟨by rfl, ?_⟩) (by assumption) ?_
                      rotate_left
                      · (intro w hSw; (try dsimp only at hSw); go_simp; (try (with_reducible rfl)))
                      try simp only [Act.put, List.setIfInBounds_toArray, List.set_cons_zero, List.set_cons_succ]
                      refine wpAnyH_take (i := 22) (oi := ⟨some 76, _, _, _, _, _⟩) (v := ?_) rfl (by kernel_rfl) (by kernel_rfl) (by kernel_rfl) (fun _ _ _ h => h) (Or.inl ⟨by rfl, ?_⟩) (by assumption) ?_
                      rotate_left
                      · (intro w hSw; (try dsimp only at hSw); go_simp; (try (with_reducible rfl)))
                      try simp only [Act.put, List.setIfInBounds_toArray, List.set_cons_zero, List.set_cons_succ]
                      refine wpAnyH_take (i := 23) (oi := ⟨some 77, _, _, _, _, _⟩) (v := ?_) rfl (by kernel_rfl) (by kernel_rfl) (by kernel_rfl) (fun _ _ _ h => h) (Or.inl ⟨by rfl, ?_⟩) (by assumption) ?_
                      rotate_left
                      · (intro w hSw; (try dsimp only at hSw); go_simp; (try (with_reducible rfl)))
                      try simp only [Act.put, List.setIfInBounds_toArray, List.set_cons_zero, List.set_cons_succ]
                      refine wpAnyH_ready (rs := [24]) (by kernel_rfl) (by simp) ?_
                      refine AllReadyH.cons (o := ⟨some 78, _, _, _, _, _⟩) rfl (fun K hK => ?_) AllReadyH.nil
                      go_simp
                      with_reducible refine HEV.out.mono ?_; rintro e w6 ⟨rfl, b6⟩; have d6 : Below wr.heap.size wr w6 := btrans (Below.refl _ _).drew b6; obtain ⟨j0, j1, j2⟩ := blk3 (HKB.out.below d6 HKB.out.lt); have j3 := nearv.cell_keep c9 d6; have j4 := nearv.cell_keep q5 d6; have j5 := nearv.cell_keep q8 d6
                      go_wp2_with fail
                      refine hK.out _ _ (by (try dsimp only); simp [*]) (fun hHeld => ?_)
                      clear hK K
                      try simp only [List.setIfInBounds_toArray, List.set_cons_zero, List.set_cons_succ]
                      refine wpAnyH_take (i := 25) (oi := ⟨some 79, _, _, _, _, _⟩) (v := ?_) rfl (by kernel_rfl) (by kernel_rfl) (by kernel_rfl) (fun _ _ _ h => h) (Or.inl ⟨by rfl, ?_⟩) (by assumption) ?_
                      rotate_left
                      · (intro w hSw; (try dsimp only at hSw); go_simp; (try (with_reducible rfl)))
                      try simp only [Act.put, List.setIfInBounds_toArray, List.set_cons_zero, List.set_cons_succ]
                      refine wpAnyH_take (i := 26) (oi := ⟨some 80, _, _, _, _, _⟩) (v := ?_) rfl (by kernel_rfl) (by kernel_rfl) (by kernel_rfl) (fun _ _ _ h => h) (Or.inl ⟨by rfl, ?_⟩) (by assumption) ?_
                      rotate_left
                      · (intro w hSw; (try dsimp only at hSw); go_simp; (try (with_reducible rfl)))
                      try simp only [Act.put, List.setIfInBounds_toArray, List.set_cons_zero, List.set_cons_succ]
                      refine wpAnyH_done (by kernel_rfl) ?_ _
                      have HB6 := Lib.hid (btrans (HBI.out) d6)
                      clear hHeld k0 k1 k2 q5 q8 c9 d6 b6 j0 j1 j2 j3 j4 j5
                      go_wp2_with fail
                      go_roundg g4
                      case measure => omega
                      case rel => exact ⟨i + 1, by omega, by go_num, HEV2, HB6.out⟩
          · rw [okG_no hok] at HSET
            have HV := Lib.hid (HNO.out q hlt (fun hh => hok ((setOk_iff hgood).2 (by rw [← HGR.out]; exact hh.1))))
            clear hok
            go_wp2_with fail
            refine wp_region_held_drew (S := (fun w' : World => w'.cell? ⟨w.heap.size, 0, none⟩ = some (.int .i64 (n : Int)) ∧ w'.cell? ⟨w.heap.size, 1, none⟩ = some (.slice A l.length c) ∧ w'.cell? ⟨g5, o5 + q, none⟩ = some (.slice A6 r.length c6))) (by kernel_rfl) (by (try dsimp only); simp [*]) (fun hHeld => ?_)
            change wpAnyH _ _ _ _ _ _ #[false, false, false, false, false, false, false, false, false, false, false, false, false, false, false] _ _
            refine wpAnyH_take (i := 0) (oi := ⟨some 30, _, _, _, _, _⟩) (v := ?_) rfl (by kernel_rfl) (by kernel_rfl) (by kernel_rfl) (fun _ _ _ h => h) (Or.inl ⟨by rfl, ?_⟩) (by assumption) ?_
            rotate_left
            · (intro w hSw; (try dsimp only at hSw); go_simp; (try (with_reducible rfl)))
            try simp only [Act.put, List.setIfInBounds_toArray, List.set_cons_zero, List.set_cons_succ]
            refine wpAnyH_take (i := 1) (oi := ⟨some 31, _, _, _, _, _⟩) (v := ?_) rfl (by kernel_rfl) (by kernel_rfl) (by kernel_rfl) (fun _ _ _ h => h) (Or.inl ⟨by rfl, ?_⟩) (by assumption) ?_
            rotate_left
            · (intro w hSw; (try dsimp only at hSw); go_simp; (try (with_reducible rfl)))
            try simp only [Act.put, List.setIfInBounds_toArray, List.set_cons_zero, List.set_cons_succ]
            refine wpAnyH_take (i := 2) (oi := ⟨some 32, _, _, _, _, _⟩) (v := ?_) rfl (by kernel_rfl) (by kernel_rfl) (by kernel_rfl) (fun _ _ _ h => h) (Or.inl ⟨by rfl, ?_⟩) (by assumption) ?_
            rotate_left
            · (intro w hSw; (try dsimp only at hSw); go_simp; (try (with_reducible rfl)))
            try simp only [Act.put, List.setIfInBounds_toArray, List.set_cons_zero, List.set_cons_succ]
            refine wpAnyH_take (i := 3) (oi := ⟨some 33, _, _, _, _, _⟩) (v := ?_) rfl (by kernel_rfl) (by kernel_rfl) (by kernel_rfl) (fun _ _ _ h => h) (Or.inl ⟨by rfl, ?_⟩) (by assumption) ?_
            rotate_left
            · (intro w hSw; (try dsimp only at hSw); go_simp; (try (with_reducible rfl)))
            try simp only [Act.put, List.setIfInBounds_toArray, List.set_cons_zero, List.set_cons_succ]
            refine wpAnyH_take (i := 4) (oi := ⟨some 34, _, _, _, _, _⟩) (v := ?_) rfl (by kernel_rfl) (by kernel_rfl) (by kernel_rfl) (fun _ _ _ h => h) (Or.inl ⟨by rfl, ?_⟩) (by assumption) ?_
            rotate_left
            · (intro w hSw; (try dsimp only at hSw); go_simp; (try (with_reducible rfl)))
            try simp only [Act.put, List.setIfInBounds_toArray, List.set_cons_zero, List.set_cons_succ]
            refine wpAnyH_ready (rs := [5]) (by kernel_rfl) (by simp) ?_
            refine AllReadyH.cons (o := ⟨some 35, _, _, _, _, _⟩) rfl (fun K hK => ?_) AllReadyH.nil
            go_simp
            with_reducible refine HSET.out.mono ?_; rintro e w4 ⟨rfl, b4⟩; have d4 : Below wr.heap.size wr w4 := btrans (Below.refl _ _).drew b4; obtain ⟨k0, k1, -, -⟩ := (HGB.out.below d4 HGB.out.lt).two; have k3 := nearv.cell_keep q5 d4
            go_wp2_with fail
            refine hK.out _ _ (by (try dsimp only); simp [*]) (fun hHeld => ?_)
            clear hK K
            try simp only [List.setIfInBounds_toArray, List.set_cons_zero, List.set_cons_succ]
            refine wpAnyH_take (i := 6) (oi := ⟨some 36, _, _, _, _, _⟩) (v := ?_) rfl (by kernel_rfl) (by kernel_rfl) (by kernel_rfl) (fun _ _ _ h => h) (Or.inl ⟨by rfl, ?_⟩) (by assumption) ?_
            rotate_left
            · (intro w hSw; (try dsimp only at hSw); go_simp; (try (with_reducible rfl)))
            try simp only [Act.put, List.setIfInBounds_toArray, List.set_cons_zero, List.set_cons_succ]
            refine wpAnyH_take (i := 7) (oi := ⟨some 37, _, _, _, _, _⟩) (v := ?_) rfl (by kernel_rfl) (by kernel_rfl) (by kernel_rfl) (fun _ _ _ h => h) (Or.inl ⟨by rfl, ?_⟩) (by assumption) ?_
            rotate_left
            · (intro w hSw; (try dsimp only at hSw); go_simp; (try (with_reducible rfl)))
            try simp only [Act.put, List.setIfInBounds_toArray, List.set_cons_zero, List.set_cons_succ]
            refine wpAnyH_take (i := 8) (oi := ⟨some 38, _, _, _, _, _⟩) (v := undef) rfl (by kernel_rfl) (by kernel_rfl) (by kernel_rfl) (fun _ _ _ h => h) (Or.inr ⟨by rfl, rfl⟩) (by assumption) ?_
            try simp only [Act.put, List.setIfInBounds_toArray, List.set_cons_zero, List.set_cons_succ]
            refine wpAnyH_take (i := 9) (oi := ⟨some 39, _, _, _, _, _⟩) (v := undef) rfl (by kernel_rfl) (by kernel_rfl) (by kernel_rfl) (fun _ _ _ h => h) (Or.inr ⟨by rfl, rfl⟩) (by assumption) ?_
            try simp only [Act.put, List.setIfInBounds_toArray, List.set_cons_zero, List.set_cons_succ]
            refine wpAnyH_take (i := 10) (oi := ⟨some 40, _, _, _, _, _⟩) (v := undef) rfl (by kernel_rfl) (by kernel_rfl) (by kernel_rfl) (fun _ _ _ h => h) (Or.inr ⟨by rfl, rfl⟩) (by assumption) ?_
            try simp only [Act.put, List.setIfInBounds_toArray, List.set_cons_zero, List.set_cons_succ]
            refine wpAnyH_take (i := 11) (oi := ⟨some 41, _, _, _, _, _⟩) (v := undef) rfl (by kernel_rfl) (by kernel_rfl) (by kernel_rfl) (fun _ _ _ h => h) (Or.inr ⟨by rfl, rfl⟩) (by assumption) ?_
            try simp only [Act.put, List.setIfInBounds_toArray, List.set_cons_zero, List.set_cons_succ]
            refine wpAnyH_take (i := 12) (oi := ⟨some 42, _, _, _, _, _⟩) (v := undef) rfl (by kernel_rfl) (by kernel_rfl) (by kernel_rfl) (fun _ _ _ h => h) (Or.inr ⟨by rfl, rfl⟩) (by assumption) ?_
            try simp only [Act.put, List.setIfInBounds_toArray, List.set_cons_zero, List.set_cons_succ]
            refine wpAnyH_take (i := 13) (oi := ⟨some 43, _, _, _, _, _⟩) (v := undef) rfl (by kernel_rfl) (by kernel_rfl) (by kernel_rfl) (fun _ _ _ h => h) (Or.inr ⟨by rfl, rfl⟩) (by assumption) ?_
            try simp only [Act.put, List.setIfInBounds_toArray, List.set_cons_zero, List.set_cons_succ]
            refine wpAnyH_take (i := 14) (oi := ⟨some 44, _, _, _, _, _⟩) (v := ?_) rfl (by kernel_rfl) (by kernel_rfl) (by kernel_rfl) (fun _ _ _ h => h) (Or.inl ⟨by rfl, ?_⟩) (by assumption) ?_
            rotate_left
            · (intro w hSw; (try dsimp only at hSw); go_simp; (try (with_reducible rfl)))
            try simp only [Act.put, List.setIfInBounds_toArray, List.set_cons_zero, List.set_cons_succ]
            refine wpAnyH_done (by kernel_rfl) ?_ _
            go_wp2_with fail
            go_ret2
            exact ⟨retBB3 HV.out.symm HPF.out.symm, btrans HBE.out d4⟩
    · have hd : ((sets.length : Int) != ((gameN l n kk).P : Int)) = true := by simpa using (fun e => hlen (by omega) : ¬ (sets.length : Int) = ((gameN l n kk).P : Int))
      have HV : Hid (okG (EvOk (n : Int) l (kk : Int) sets) = false) := okG_no fun hh => hlen (HOK.out.1 hh).1
      clear hlen
      go_wp2_with fail
      go_ret2
      exact ⟨retBB3 HV.out.symm HPF.out.symm, HE3.out⟩
  · rw [okG_no hf] at HFI
    have HPF : Hid (okG (cops.FieldP s l k) = false) := okG_no hf
    have HV : Hid (okG (EvOk s l k sets) = false) := okG_no fun hh => hf hh.1
    clear h h2 hrw hf b0 g0
    go_enter Try.func44, Try.ntmps44
    go_wp2_with fail
    refine HFI.out.mono ?_
    rintro e w2 ⟨rfl, b2⟩
    have HE2 := Lib.hid (btrans HB0.out b2)
    clear b2 p0 p1
    go_wp2_with fail
    go_ret2
    exact ⟨retBB3 HV.out.symm HPF.out.symm, HE2.out⟩
end Go.Proofs.Ytphlpipbhaiijaa.evas

/- FnExactIsEvasion returns true for every Graph, every number and every list of sets: the program's IsEvasion and the model's return the same two values and write into nothing that was there. No conditions. -/
namespace Go.Proofs.Ytphlpipbhaiijaa.exEv
open Go.ChangeShapes Go.WideShapes Go.ChangeAt Go.RowKit P2 words edges ints owns good adjs fns rets sets bags evas _root_.Go.Proofs.Ytphlpipbhaiijaa.opens
set_option linter.unusedVariables false

/-- one row of a table is no longer than all together -/
theorem tot_mem : ∀ {rows : List (List Int)} {r : List Int}, r ∈ rows → r.length ≤ gridl.tot rows
  | x :: rs, r, h => by
    have e : gridl.tot (x :: rs) = x.length + gridl.tot rs := by simp [gridl.tot]
    rcases List.mem_cons.1 h with rfl | h
    · omega
    · have := tot_mem h; omega
set_option maxHeartbeats 4000000 in
set_option maxRecDepth 100000 in
theorem core (s0 : Int) (A0 : Option Addr) (c0 : Nat) (l0 : List Ed) (x1 : Int) (A2 : Option Addr) (c2 : Nat) (q2 : List Value) (l2 : List (List Int)) (w : World) (h0 : Edges w (.slice A0 l0.length c0) l0) (hl0 : l0.length ≤ 1048576) (h2 : gridr.ReadsG w (.slice A2 l2.length c2) q2 l2) (hl2 : gridl.tot l2 ≤ 1048576) (hm2 : l2.length ≤ 1048576) (hb2 : l0.length + l2.length + gridl.tot l2 ≤ 1048576)
    (HS : Hid (∀ (B0 : Option Addr) (d0 : Nat) (B2 : Option Addr) (d2 : Nat) (q2 : List Value) (W : World), Edges W (.slice B0 l0.length d0) l0 → gridr.ReadsG W (.slice B2 l2.length d2) q2 l2 → Calls Try.prog 44 #[.agg #[.int .i64 s0, .slice B0 l0.length d0], .int .i64 x1, .slice B2 l2.length d2] W fun e W' => e = .returned (.tuple #[.bool (okG (EvOk s0 l0 x1 l2)), .bool (okG (cops.FieldP s0 l0 x1))]) ∧ Below W.heap.size W W'))
    (HI : Hid (∀ (B0 : Option Addr) (d0 : Nat) (B2 : Option Addr) (d2 : Nat) (q2 : List Value) (W : World), Edges W (.slice B0 l0.length d0) l0 → gridr.ReadsG W (.slice B2 l2.length d2) q2 l2 → Calls Try.prog 46 #[.agg #[.int .i64 s0, .slice B0 l0.length d0], .int .i64 x1, .slice B2 l2.length d2] W fun e W' => e = .returned (.tuple #[.bool (okG (EvOk s0 l0 x1 l2)), .bool (okG (cops.FieldP s0 l0 x1))]) ∧ Below W.heap.size W W')) :
    Calls Try.prog 13 #[.agg #[.int .i64 s0, .slice A0 l0.length c0], .int .i64 x1, .slice A2 l2.length c2] w fun e w' => e = .returned (.bool true) ∧ Below w.heap.size w w' := by
  have H0 := Lib.hid h0
  have H2 := Lib.hid h2
  have b0_0 : Below w.heap.size w (w.alloc (.cells #[.int .i64 s0, .slice A0 l0.length c0] 24)) := (Below.refl _ _).alloc (Nat.le_refl _) _
  have e0_0 : Below w.heap.size w (w.alloc (.cells #[.int .i64 s0, .slice A0 l0.length c0] 24)) := b0_0
  have g0 := Blk.new w 24 #[.int .i64 s0, .slice A0 l0.length c0]
  have z0_0 := Lib.hid b0_0.size
  have yag := Lib.hid g0.lt
  have hself : ∀ b : Bool, (b != b) = false := fun b => by simp
  have hselfi : ∀ b : Int, (b != b) = false := fun b => by simp
  clear h0 h2
  go_enter Try.func13, Try.ntmps13
  have hz0 : ((l0.length : Nat) : Int) ≤ 1048576 := by omega
  obtain ⟨pag0, pag1, -, -⟩ := g0.two
  go_wp2_with fail
  refine (szGraph_yes s0 (.slice A0 l0.length c0) l0 (1048576) (w.alloc (.cells #[.int .i64 s0, .slice A0 l0.length c0] 24)) (H0.out.below e0_0) (by omega) (by omega)).mono ?_
  rintro e w2 ⟨rfl, bw2⟩
  clear pag0 pag1
  have e0 := btrans e0_0 bw2
  have z0 := Lib.hid bw2.size
  replace g0 := g0.below bw2 g0.lt
  clear bw2
  go_wp2_with fail
  refine (gridl.szIntSS_yes (.slice A2 l2.length c2) q2 l2 (1048576 - (l0.length : Int)) w2 (H2.out.below e0) (by omega) (by omega) (by omega)).mono ?_
  rintro e w3 ⟨rfl, bw3⟩
  have e1 := btrans e0 bw3
  have z1 := Lib.hid bw3.size
  replace g0 := g0.below bw3 g0.lt
  clear bw3 e0
  have hy2 : ¬ (1048576 - (l0.length : Int) - (l2.length : Int) - (gridl.tot l2 : Int) < 0) := by omega
  obtain ⟨pag0, pag1, -, -⟩ := g0.two
  go_wp2_with fail
  refine (toGraph_any s0 (.slice A0 l0.length c0) l0 w3 (H0.out.below e1) hl0).mono ?_
  rintro e w4 ⟨Apg, cpg, rfl, opg, bw4⟩
  clear pag0 pag1
  have e2 := btrans e1 bw4
  have z2 := Lib.hid bw4.size
  replace g0 := g0.below bw4 g0.lt
  clear bw4 e1
  have opg_ := OwnR.new opg
  clear opg
  go_wp2_with fail
  refine (gridl.toIntSS_any (.slice A2 l2.length c2) q2 l2 w4 (H2.out.below e2) hl2 hm2).mono ?_
  rintro e w5 ⟨Apsets, cpsets, uspsets, rfl, opsets, bw5⟩
  have e3 := btrans e2 bw5
  have z3 := Lib.hid bw5.size
  replace g0 := g0.below bw5 g0.lt
  replace opg_ := opg_.below bw5
  clear bw5 e2
  have opsets_ := gridl.OwnGR.new opsets
  clear opsets
  go_wp2_with fail
  refine (HS.out Apg cpg Apsets cpsets uspsets w5 opg_.reads opsets_.reads).mono ?_
  rintro e w6 ⟨rfl, bw6⟩
  have e4 := btrans e3 bw6
  have z4 := Lib.hid bw6.size
  replace g0 := g0.below bw6 g0.lt
  replace opg_ := opg_.below bw6
  replace opsets_ := opsets_.below bw6
  clear bw6 e3
  obtain ⟨pag0, pag1, -, -⟩ := g0.two
  go_wp2_with fail
  refine (toGraph_any s0 (.slice A0 l0.length c0) l0 w6 (H0.out.below e4) hl0).mono ?_
  rintro e w7 ⟨Axg, cxg, rfl, oxg, bw7⟩
  clear pag0 pag1
  have e5 := btrans e4 bw7
  have z5 := Lib.hid bw7.size
  replace g0 := g0.below bw7 g0.lt
  clear bw7 e4
  have oxg_ := OwnR.new oxg
  clear oxg
  have bxxg : Below w7.heap.size w7 (w7.alloc (.cells #[.int .i64 s0, .slice Axg l0.length cxg] 29)) := (Below.refl _ _).alloc (Nat.le_refl _) _
  have gxg := Blk.new w7 29 #[.int .i64 s0, .slice Axg l0.length cxg]
  have e6 := btrans e5 bxxg
  have z6 := Lib.hid bxxg.size
  replace g0 := g0.below bxxg g0.lt
  replace oxg_ := oxg_.below bxxg
  clear bxxg e5
  have yxg := Lib.hid gxg.lt
  go_wp2_with fail
  refine (gridl.toIntSS_any (.slice A2 l2.length c2) q2 l2 (w7.alloc (.cells #[.int .i64 s0, .slice Axg l0.length cxg] 29)) (H2.out.below e6) hl2 hm2).mono ?_
  rintro e w8 ⟨Axsets, cxsets, usxsets, rfl, oxsets, bw8⟩
  have e7 := btrans e6 bw8
  have z7 := Lib.hid bw8.size
  replace g0 := g0.below bw8 g0.lt
  replace gxg := gxg.below bw8 gxg.lt
  replace oxg_ := oxg_.below bw8
  clear bw8 e6
  have oxsets_ := gridl.OwnGR.new oxsets
  clear oxsets
  obtain ⟨pxg0, pxg1, -, -⟩ := gxg.two
  go_wp2_with fail
  refine (HI.out Axg cxg Axsets cxsets usxsets w8 oxg_.reads oxsets_.reads).mono ?_
  rintro e w9 ⟨rfl, bw9⟩
  clear pxg0 pxg1
  have e8 := btrans e7 bw9
  have z8 := Lib.hid bw9.size
  replace g0 := g0.below bw9 g0.lt
  replace gxg := gxg.below bw9 gxg.lt
  replace oxg_ := oxg_.below bw9
  replace oxsets_ := oxsets_.below bw9
  clear bw9 e7
  obtain ⟨pag0, pag1, -, -⟩ := g0.two
  obtain ⟨pxg0, pxg1, -, -⟩ := gxg.two
  have HA := Lib.hid (H0.out.below e8)
  have HX := Lib.hid (oxg_.reads)
  go_wp2_with fail
  go_region_held3 (fun w' => w'.cell? ⟨w.heap.size, 0, none⟩ = some (.int .i64 s0) ∧ w'.cell? ⟨w.heap.size, 1, none⟩ = some (.slice A0 l0.length c0) ∧ w'.cell? ⟨w7.heap.size, 0, none⟩ = some (.int .i64 s0) ∧ w'.cell? ⟨w7.heap.size, 1, none⟩ = some (.slice Axg l0.length cxg)) (go_keep)
    (first | (go_at_call 17; refine (toGraph_k s0 (.slice A0 l0.length c0) l0 w9.drew HA.out hl0 (p := ⟨w.heap.size, 0, none⟩) (q := ⟨w.heap.size, 1, none⟩) (r := ⟨w7.heap.size, 0, none⟩) (t := ⟨w7.heap.size, 1, none⟩) (a := .int .i64 s0) (b := .slice A0 l0.length c0) (c := .int .i64 s0) (d := .slice Axg l0.length cxg) ?_ ?_ ?_ ?_).mono ?_; (simp [*]); (simp [*]); (simp [*]); (simp [*]); rintro e w10 ⟨⟨Ay, cy, rfl, oy⟩, k0, k1, k2, k3, bw10⟩)
           | (go_at_call 20; refine (eqGraph_k s0 _ _ l0 _ (Reads.below (w := w9.drew) HX.out bw10) (Reads.of_own oy) hl0 (p := ⟨w.heap.size, 0, none⟩) (q := ⟨w.heap.size, 1, none⟩) (r := ⟨w7.heap.size, 0, none⟩) (t := ⟨w7.heap.size, 1, none⟩) (a := .int .i64 s0) (b := .slice A0 l0.length c0) (c := .int .i64 s0) (d := .slice Axg l0.length cxg) ?_ ?_ ?_ ?_).mono ?_; (simp [*]); (simp [*]); (simp [*]); (simp [*]); rintro e w11 ⟨rfl, m0, m1, m2, m3, bw11⟩))
  clear k0 k1 k2 k3 m0 m1 m2 m3 HA HX oy
  clear pag0 pag1 pxg0 pxg1
  have cw10 : Below w9.heap.size w9 w10 := (Below.refl _ _).drew.trans bw10
  clear bw10
  have e9 := btrans e8 cw10
  have z9 := Lib.hid cw10.size
  replace g0 := g0.below cw10 g0.lt
  replace gxg := gxg.below cw10 gxg.lt
  replace oxg_ := oxg_.below cw10
  replace oxsets_ := oxsets_.below cw10
  clear cw10 e8
  have e10 := btrans e9 bw11
  have z10 := Lib.hid bw11.size
  replace g0 := g0.below bw11 g0.lt
  replace gxg := gxg.below bw11 gxg.lt
  replace oxg_ := oxg_.below bw11
  replace oxsets_ := oxsets_.below bw11
  clear bw11 e9
  go_wp2_with fail
  refine (gridl.toIntSS_any (.slice A2 l2.length c2) q2 l2 w11 (H2.out.below e10) hl2 hm2).mono ?_
  rintro e w12 ⟨Aysets, cysets, usysets, rfl, oysets, bw12⟩
  have e11 := btrans e10 bw12
  have z11 := Lib.hid bw12.size
  replace g0 := g0.below bw12 g0.lt
  replace gxg := gxg.below bw12 gxg.lt
  replace oxg_ := oxg_.below bw12
  replace oxsets_ := oxsets_.below bw12
  clear bw12 e10
  have oysets_ := gridl.OwnGR.new oysets
  clear oysets
  go_wp2_with fail
  refine (gridl.eqIntSS_own _ _ _ _ l2 w12 oxsets_.reads oysets_.reads hl2 hm2).mono ?_
  rintro e w13 ⟨rfl, bw13⟩
  have e12 := btrans e11 bw13
  have z12 := Lib.hid bw13.size
  replace g0 := g0.below bw13 g0.lt
  replace gxg := gxg.below bw13 gxg.lt
  replace oxg_ := oxg_.below bw13
  replace oxsets_ := oxsets_.below bw13
  replace oysets_ := oysets_.below bw13
  clear bw13 e11
  clear oysets_
  go_wp2_with fail
  go_ret
  exact ⟨rfl, e12⟩

set_option maxHeartbeats 1000000 in
set_option maxRecDepth 100000 in
theorem walk (s0 : Int) (u0 : Value) (l0 : List Ed) (x1 : Int) (u2 : Value) (q2 : List Value) (l2 : List (List Int)) (w : World) (w0 : IsGr w s0 u0 l0) (w1 : (Lit.int .i64 x1).wf = true) (w2 : IsRows w u2 q2 l2) :
    Calls Try.prog 13 #[.agg #[.int .i64 s0, u0], .int .i64 x1, u2] w fun e w' => e = .returned (.bool true) ∧ Below w.heap.size w w' := by
  obtain ⟨h0, hm0, hs0, ht0⟩ := w0
  obtain ⟨A0, c0, rfl, -⟩ := h0.form
  unfold maxLen at hm0
  have hb1 := opens.bounds64 w1
  clear w1
  obtain ⟨h2, hm2, hi2⟩ := w2
  obtain ⟨A2, c2, rfl, -⟩ := h2.1
  unfold maxLen at hm2 hi2
  have b0_0 : Below w.heap.size w (w.alloc (.cells #[.int .i64 s0, .slice A0 l0.length c0] 24)) := (Below.refl _ _).alloc (Nat.le_refl _) _
  have e0_0 : Below w.heap.size w (w.alloc (.cells #[.int .i64 s0, .slice A0 l0.length c0] 24)) := b0_0
  have g0 := Blk.new w 24 #[.int .i64 s0, .slice A0 l0.length c0]
  by_cases hl0 : l0.length ≤ 1048576
  rotate_left
  · have hlt : (1048576 : Int) < (l0.length : Int) := by omega
    have HZ := Lib.hid (szGraph_no s0 (.slice A0 l0.length c0) l0 1048576 _ (h0.below e0_0) hlt (by omega) (by omega))
    clear h0 h2
    obtain ⟨p0, p1, -, -⟩ := g0.two
    go_enter Try.func13, Try.ntmps13
    go_wp2_with fail
    refine HZ.out.mono ?_
    rintro e w1 ⟨rfl, b1⟩
    go_wp2_with fail
    go_ret
    exact ⟨rfl, btrans e0_0 b1⟩
  by_cases hb2 : l0.length + l2.length + gridl.tot l2 ≤ 1048576
  rotate_left
  · have HZ := Lib.hid (szGraph_yes s0 (.slice A0 l0.length c0) l0 1048576 _ (h0.below e0_0) (by omega) (by omega))
    have HY := Lib.hid (fun (w1 : World) (b1 : Below (w.alloc (.cells #[.int .i64 s0, .slice A0 l0.length c0] 24)).heap.size (w.alloc (.cells #[.int .i64 s0, .slice A0 l0.length c0] 24)) w1) => gridl.szIntSS_no (.slice A2 l2.length c2) q2 l2 (1048576 - (l0.length : Int)) w1 (h2.below (btrans e0_0 b1)) (by omega) (by omega) (by omega) (fun r hr => by have := (hi2 r hr).1; omega) (by omega))
    have hln : ((l0.length : Nat) : Int) ≤ 1048576 := by omega
    clear h0 h2
    obtain ⟨p0, p1, -, -⟩ := g0.two
    go_enter Try.func13, Try.ntmps13
    go_wp2_with fail
    refine HZ.out.mono ?_
    rintro e w1 ⟨rfl, b1⟩
    clear p0 p1
    go_wp2_with fail
    refine (HY.out w1 b1).mono ?_
    rintro e w2 ⟨rfl, b2⟩
    go_wp2_with fail
    go_ret
    exact ⟨rfl, btrans (btrans e0_0 b1) b2⟩
  have hl2 : gridl.tot l2 ≤ 1048576 := by omega
  exact core s0 A0 c0 l0 x1 A2 c2 q2 l2 w h0 hl0 h2 hl2 (by omega) hb2 (Lib.hid (fun B0 d0 B2 d2 q2 W k0 k2 => specEv_any s0 x1 _ l0 B2 d2 q2 l2 W k0 hl0 k2 (by omega) (fun r hr => Nat.le_trans (tot_mem hr) hl2) hs0 ht0)) (Lib.hid (fun B0 d0 B2 d2 q2 W k0 k2 => implEv_any s0 x1 _ l0 B2 d2 q2 l2 W k0 hl0 k2 (by omega) (fun r hr => Nat.le_trans (tot_mem hr) hl2)))

theorem own : ownKnob Try.prog.godebug = none := by kernel_rfl
theorem laidOut : laidOutB Try.prog = true := by kernel_rfl

set_option maxHeartbeats 1000000 in
set_option maxRecDepth 100000 in
theorem lifted (os : Os) (started : os.Started) (H : Type) (enc : TypeId × Value → H) :
    ReturnsInHanded {} Try.checked os 13 .any (Rows.fnExactIsEvasionSpec.pre6 enc Try.prog Try.f13 Rows.fnExactIsEvasionRow.domain false) (Rows.fnExactIsEvasionSpec.post enc Try.prog Try.f13 false true false false) := by
  refine returnsInHanded_of_change (C := Try.checked) own started (by kernel_rfl) Try.func13
    (ChangeSpec.witness6 (enc := enc) (C := Try.checked) false ⟨#[], #[.agg #[.int .i64 0, .slice none 0 0], .int .i64 0, .slice none 0 0], []⟩ 8 (by kernel_rfl) (by kernel_rfl) (by kernel_rfl) (by kernel_rfl)) ?_
  intro W base args ds gs before hval0 hW hcnd _
  have hval : ∀ (j : Nat) t v, Try.f13.params[j]? = some t → args[j]? = some v → Value.okWide Try.prog W .any base t v := hval0
  have hW' := hW
  obtain ⟨p, q, hA0, hV, rfl, hfz, hnd⟩ := hW
  have hA : DataW.TrodAll enc Try.prog W 0 (fun _ => true) true Try.f13.params.toList args.toList ds p := hA0
  rw [Try.params13] at hA hval
  obtain ⟨v0, vs0, d0, ds0, p0, q0, hargs, rfl, rfl, h0, r0⟩ := trodAll_cons hA
  obtain ⟨v1, vs1, d1, ds1, p1, q1, rfl, rfl, rfl, h1, r1⟩ := trodAll_cons r0
  obtain ⟨v2, vs2, d2, ds2, p2, q2, rfl, rfl, rfl, h2, r2⟩ := trodAll_cons r1
  obtain ⟨rfl, rfl, rfl⟩ := trodAll_nil r2
  obtain rfl : args = #[v0, v1, v2] := by cases args; simp_all
  obtain ⟨rfl, rfl⟩ := trodVars_none hV
  have k0 := h0
  have lt0 : ∀ x ∈ p0, x.block < W.heap.size := by obtain ⟨m, hm⟩ := k0; exact DataW.trod_lt m _ _ _ hm
  obtain ⟨s0, u0, l0, rfl, w0⟩ := opens.open_graph (hval 0 24 v0 rfl rfl) h0
  obtain ⟨a1, rfl, rfl, rfl, w1⟩ := open_int Try.underlying3 (hval 1 3 v1 rfl rfl) h1
  have k2 := h2
  have lt2 : ∀ x ∈ p2, x.block < W.heap.size := by obtain ⟨m, hm⟩ := k2; exact DataW.trod_lt m _ _ _ hm
  obtain ⟨u2, q2, l2, rfl, w2⟩ := opens.open_rowsl (hval 2 44 v2 rfl rfl) h2
  clear hA0 hval0
  refine (walk s0 u0 l0 a1 v2 q2 l2 W w0 w1 w2).mono fun e W' ⟨he, bel⟩ => ?_
  subst he
  exact ⟨_, rfl, _, _, _, [], _, [], hW', trodAll_mk1 (shut_bool Try.underlying4 _), (trodAll_cons_mk (Below.trod laidOut (by kernel_rfl) (of_decide_eq_true (by kernel_rfl)) k0 bel lt0) (trodAll_cons_mk (shut_int Try.underlying3 w1) (trodAll_cons_mk (Below.trod laidOut (by kernel_rfl) (of_decide_eq_true (by kernel_rfl)) k2 bel lt2) trodAll_mk0))), rfl, bel.frame _, fun h => by cases h⟩

theorem over : Rows.fnExactIsEvasionRow.holds Try.pinned (OpenSpec.ofChange Rows.fnExactIsEvasionSpec) :=
  OpenClaim.holds_of_wide 13 Try.f13 rfl rfl rfl rfl rfl rfl rfl ⟨rfl, rfl, rfl, rfl, rfl⟩ rfl rfl rfl rfl rfl (by kernel_rfl) Try.func13 (by kernel_rfl)
    (of_decide_eq_true (by kernel_rfl)) (by unfold Func.isWrapper; first | (rw [if_pos (by decide +kernel)]; kernel_rfl) | (rw [if_neg (by decide +kernel)]; exact ⟨rfl, rfl⟩))
    (fun os started H enc _ => lifted os started H enc)

theorem fnExactIsEvasion_holds : Rows.FnExactIsEvasionSaid := over
end Go.Proofs.Ytphlpipbhaiijaa.exEv
