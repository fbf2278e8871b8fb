/- The contracts of slices.Compare over lists of integers and of slices.BinarySearchFunc over lists in order. -/
import Derived.Handy
import Derived.Test.YtpeobnmfndelhaaK19
import Derived.Test.YtpeobnmfndelhaaK04
import Derived.Deep.DeepCutAuto
import Derived.Test.YtpeobnmfndelhaaK25
import Derived.Test.YtpeobnmfndelhaaK14
import Derived.Test.YtpeobnmfndelhaaK01
import Derived.Test.YtpeobnmfndelhaaK10
import Derived.Test.YtpeobnmfndelhaaK11
import Derived.Test.YtpeobnmfndelhaaK17
import Derived.Deep.RegionHeld3
import Derived.Maps.AppendAt
import Derived.Test.YtpeobnmfndelhaaProg
import Derived.Deep.Slices
import Derived.Lib.SmallJoins
import Derived.OpenShut
namespace Go.Proofs.Ytpeobnmfndelhaa.lists
open Go.RowKit P2 words edges ints good adjs fns sets rets apps gridr grid
set_option linter.unusedVariables false

def sgN (x y : Int) : Int := if x < y then -1 else if y < x then 1 else 0
def cmpL : List Nat → List Nat → Int
  | x :: a, y :: b => if x = y then cmpL a b else sgN x y
  | _, _ => 0
theorem cmpL_neg : ∀ {a b : List Nat}, a.length = b.length → (cmpL a b < 0 ↔ lexN a b)
  | [], [], _ => by simp [cmpL, lexN]
  | [], _ :: _, h => by simp at h
  | _ :: _, [], h => by simp at h
  | x :: a, y :: b, h => by
    have ih := cmpL_neg (a := a) (b := b) (by simpa using h)
    show (if x = y then cmpL a b else sgN x y) < 0 ↔ x < y ∨ x = y ∧ lexN a b
    by_cases e : x = y
    · rw [if_pos e, ih]; constructor
      · intro h1; exact .inr ⟨e, h1⟩
      · rintro (h1 | ⟨_, h1⟩)
        · omega
        · exact h1
    · rw [if_neg e]; unfold sgN
      constructor
      · intro h1; left
        split at h1
        · omega
        · split at h1 <;> omega
      · rintro (h1 | ⟨h1, _⟩)
        · rw [if_pos (by omega)]; omega
        · exact absurd h1 e
theorem cmpL_self : ∀ (a : List Nat), cmpL a a = 0
  | [] => rfl
  | x :: a => by show (if x = x then cmpL a a else sgN x x) = 0; rw [if_pos rfl]; exact cmpL_self a
theorem cmpL_same {a b : List Nat} {i x : Nat} (ha : a[i]? = some x) (hb : b[i]? = some x) : cmpL (a.drop i) (b.drop i) = cmpL (a.drop (i + 1)) (b.drop (i + 1)) := by
  obtain ⟨h1, e1⟩ := List.getElem?_eq_some_iff.1 ha
  obtain ⟨h2, e2⟩ := List.getElem?_eq_some_iff.1 hb
  rw [List.drop_eq_getElem_cons h1, List.drop_eq_getElem_cons h2, e1, e2]
  show (if x = x then _ else _) = _
  rw [if_pos rfl]
theorem cmpL_diff {a b : List Nat} {i x y : Nat} (ha : a[i]? = some x) (hb : b[i]? = some y) (h : x ≠ y) : cmpL (a.drop i) (b.drop i) = sgN x y := by
  obtain ⟨h1, e1⟩ := List.getElem?_eq_some_iff.1 ha
  obtain ⟨h2, e2⟩ := List.getElem?_eq_some_iff.1 hb
  rw [List.drop_eq_getElem_cons h1, List.drop_eq_getElem_cons h2, e1, e2]
  show (if x = y then _ else _) = _
  rw [if_neg h]
theorem nan_any (x : Int) (w : World) : Calls Try.prog 161 #[.int .i64 x] w fun e w' => e = .returned (.bool false) ∧ w = w' := by
  have hx : (x != x) = false := by simp
  go_enter Try.func161, Try.ntmps161
  go_wp2_with fail
  go_ret
  exact ⟨rfl, rfl⟩
theorem cmpI_any (x y : Int) (w : World) : Calls Try.prog 157 #[.int .i64 x, .int .i64 y] w fun e w' => e = .returned (.int .i64 (sgN x y)) ∧ w = w' := by
  have H := Lib.hid (fun (x : Int) (W : World) => nan_any x W)
  rcases Int.lt_trichotomy x y with h | h | h
  · have hv : Hid (sgN x y = -1) := by show _ = _; unfold sgN; rw [if_pos h]
    go_enter Try.func157, Try.ntmps157
    go_wp2_with fail
    refine (H.out _ _).mono ?_
    rintro e w' ⟨rfl, rfl⟩
    go_wp2_with fail
    refine (H.out _ _).mono ?_
    rintro e w' ⟨rfl, rfl⟩
    go_wp2_with fail
    go_ret
    exact ⟨ret_int hv.out.symm, rfl⟩
  · subst h
    have hv : Hid (sgN x x = 0) := by show _ = _; unfold sgN; rw [if_neg (by omega), if_neg (by omega)]
    go_enter Try.func157, Try.ntmps157
    go_wp2_with fail
    refine (H.out _ _).mono ?_
    rintro e w' ⟨rfl, rfl⟩
    go_wp2_with fail
    refine (H.out _ _).mono ?_
    rintro e w' ⟨rfl, rfl⟩
    go_wp2_with fail
    go_ret
    exact ⟨ret_int hv.out.symm, rfl⟩
  · have hv : Hid (sgN x y = 1) := by show _ = _; unfold sgN; rw [if_neg (by omega), if_pos h]
    have h2 : ¬ x < y := by omega
    go_enter Try.func157, Try.ntmps157
    go_wp2_with fail
    refine (H.out _ _).mono ?_
    rintro e w' ⟨rfl, rfl⟩
    go_wp2_with fail
    refine (H.out _ _).mono ?_
    rintro e w' ⟨rfl, rfl⟩
    go_wp2_with fail
    go_ret
    exact ⟨ret_int hv.out.symm, rfl⟩
set_option maxHeartbeats 1000000 in
set_option maxRecDepth 100000 in
theorem compare_any (u v : Value) (a b : List Nat) (w : World) (hu : Ints w u (castL a)) (hv : Ints w v (castL b)) (hab : a.length = b.length) (hk : a.length ≤ 1000) :
    Calls Try.prog 128 #[u, v] w fun e w' => e = .returned (.int .i64 (cmpL a b)) ∧ w = w' := by
  obtain ⟨A1, c1, rfl, hc1⟩ := hu.form
  obtain ⟨A2, c2, rfl, hc2⟩ := hv.form
  have HC1 := Lib.hid hc1
  have HC2 := Lib.hid hc2
  have hl1 := castL_len a
  have hl2 := castL_len b
  have HAB := Lib.hid hab
  rw [hl1, hl2, ← hab]
  have HC := Lib.hid (fun (x y : Int) (W : World) => cmpI_any x y W)
  clear hu hv hc1 hc2 hl1 hl2 hab
  go_enter Try.func128, Try.ntmps128
  go_wp2_with fail
  go_loopg [11] a.length (fun g iv wr => ∃ k : Nat, k + g = a.length ∧ iv = .int .i64 (k : Int) ∧ Hid (cmpL (a.drop k) (b.drop k) = cmpL a b) ∧ wr = w)
  case atStart => exact ⟨0, by omega, rfl, rfl, rfl⟩
  case round =>
    obtain ⟨k, hkg, rfl, hr, rfl⟩ := hrel
    cases gk with
    | zero =>
      obtain rfl : k = a.length := by omega
      have HV : Hid (cmpL a b = 0) := by
        have h_ := hr.out
        rw [List.drop_length] at h_
        exact h_.symm
      go_wp2_with fail
      go_ret
      exact ⟨ret_int HV.out.symm, rfl⟩
    | succ g2 =>
      have hlt' : (k : Int) < (a.length : Int) := by omega
      obtain ⟨x, hx⟩ : ∃ x, a[k]? = some x := ⟨_, List.getElem?_eq_getElem (by omega)⟩
      obtain ⟨y, hy⟩ : ∃ y, b[k]? = some y := ⟨_, List.getElem?_eq_getElem (by have := HAB.out; omega)⟩
      obtain ⟨g3, o3, rfl, q3⟩ := HC1.out k _ (castL_at hx)
      obtain ⟨g4, o4, rfl, q4⟩ := HC2.out k _ (castL_at hy)
      have HXY := Lib.hid (HC.out (x : Int) (y : Int) wr)
      by_cases e : x = y
      · subst e
        have hv : sgN (x : Int) (x : Int) = 0 := by unfold sgN; rw [if_neg (by omega), if_neg (by omega)]
        have HK : Hid (cmpL (a.drop (k + 1)) (b.drop (k + 1)) = cmpL a b) := (cmpL_same hx hy).symm.trans hr.out
        rw [hv] at HXY
        clear hv hx hy hr
        go_wp2_with fail
        refine HXY.out.mono ?_
        rintro e w' ⟨rfl, rfl⟩
        go_wp2_with fail
        go_roundg g2
        case measure => omega
        case rel => exact ⟨k + 1, by omega, by go_num, HK, rfl⟩
      · have HV : Hid (sgN (x : Int) (y : Int) = cmpL a b) := (cmpL_diff hx hy e).symm.trans hr.out
        have hne : (sgN (x : Int) (y : Int) != 0) = true := by
          unfold sgN
          rcases Nat.lt_or_gt_of_ne e with h | h
          · rw [if_pos (by omega)]; rfl
          · rw [if_neg (by omega), if_pos (by omega)]; rfl
        clear hx hy hr e
        generalize sgN (x : Int) (y : Int) = sv at *
        go_wp2_with fail
        refine HXY.out.mono ?_
        rintro e w' ⟨rfl, rfl⟩
        go_wp2_with fail
        go_ret
        exact ⟨ret_int HV.out, rfl⟩
set_option maxHeartbeats 1000000 in
set_option maxRecDepth 100000 in
theorem binary_any (t v : Value) (us : List Value) (Ls : List (List Nat)) (x : List Nat) (k m : Nat) (w : World) (ht : ReadsG w t us (rowsN Ls)) (hv : Ints w v (castL x)) (hx : Ls[m]? = some x) (hlex : Lex Ls) (hlen : ∀ L ∈ Ls, L.length = k) (hk : k ≤ 3) (hL : Ls.length ≤ 1000) :
    Calls Try.prog 127 #[t, v, .func (.func 128) #[] #[]] w fun e w' => e = .returned (.tuple #[.int .i64 (m : Int), .bool true]) ∧ w = w' := by
  obtain ⟨At, ct, rfl, -⟩ := ht.1
  have HT := Lib.hid ht
  have hrl : (rowsN Ls).length = Ls.length := by simp [rowsN]
  have hml := (List.getElem?_eq_some_iff.1 hx).1
  have hxl : x.length = k := hlen x (List.mem_of_getElem? hx)
  have HCP := Lib.hid (fun (u : Value) (L : List Nat) (hu : Ints w u (castL L)) (hL : L.length = k) => compare_any u v L x w hu hv (by rw [hL, hxl]) (by omega))
  have HAT := Lib.hid (fun (h : Nat) (hh : h < Ls.length) => (⟨_, List.getElem?_eq_getElem hh, hlen _ (List.getElem_mem hh)⟩ : ∃ L, Ls[h]? = some L ∧ L.length = k))
  have HLT := Lib.hid (fun (h : Nat) (L : List Nat) (hh : Ls[h]? = some L) (hhm : h < m) => (by
    have hp := (List.pairwise_iff_getElem.1 hlex) h m (List.getElem?_eq_some_iff.1 hh).1 hml hhm
    rw [(List.getElem?_eq_some_iff.1 hh).2, (List.getElem?_eq_some_iff.1 hx).2] at hp
    exact (cmpL_neg (by rw [hxl]; exact hlen L (List.mem_of_getElem? hh))).2 hp : cmpL L x < 0))
  have HGE := Lib.hid (fun (h : Nat) (L : List Nat) (hh : Ls[h]? = some L) (hhm : m ≤ h) => (by
    rcases Nat.eq_or_lt_of_le hhm with e | e
    · subst e; rw [hx] at hh; cases hh; rw [cmpL_self]; omega
    · have hp := (List.pairwise_iff_getElem.1 hlex) m h hml (List.getElem?_eq_some_iff.1 hh).1 e
      rw [(List.getElem?_eq_some_iff.1 hh).2, (List.getElem?_eq_some_iff.1 hx).2] at hp
      exact fun h9 => lex_asym hp ((cmpL_neg (by rw [hxl]; exact hlen L (List.mem_of_getElem? hh))).1 h9) : ¬ cmpL L x < 0))
  have HSX := Lib.hid (And.intro hx hxl)
  rw [hrl]
  obtain ⟨Av, cv, rfl, -⟩ := hv.form
  have hcl := castL_len x
  clear ht hv hx hlex hlen hxl hrl
  go_enter Try.func127, Try.ntmps127
  go_wp2_with fail
  go_loopg [9, 10] Ls.length (fun g iv jv wr => ∃ i j : Nat, i + g = j ∧ i ≤ m ∧ m ≤ j ∧ j ≤ Ls.length ∧ iv = .int .i64 (i : Int) ∧ jv = .int .i64 (j : Int) ∧ wr = w)
  case atStart => exact ⟨0, Ls.length, by omega, by omega, by omega, by omega, rfl, rfl, rfl⟩
  case round =>
    obtain ⟨i, j, hij, him, hmj, hjP, rfl, rfl, rfl⟩ := hrel
    by_cases hlt : i < j
    · have hlt' : (i : Int) < (j : Int) := by omega
      obtain ⟨h, hh⟩ : ∃ h : Nat, h = (i + j) / 2 := ⟨_, rfl⟩
      have hdiv : ((i : Int) + (j : Int)) / 2 = (h : Int) := by omega
      have hhi : i ≤ h := by omega
      have hhj : h < j := by omega
      have hhP : (h : Int) < (Ls.length : Int) := by omega
      have hh0 : (0 : Int) ≤ (h : Int) := by omega
      obtain ⟨L, hL1, hL2⟩ := HAT.out h (by omega)
      obtain ⟨u, g, o, -, hA, q0, hr⟩ := HT.out.row (rowsN_at hL1)
      subst hA
      obtain ⟨Ar, cr, rfl, -⟩ := hr.form
      have HC := Lib.hid (HCP.out _ L hr hL2)
      rw [hcl] at HC
      have hcl2 := castL_len L
      rw [hcl2, hL2] at q0 HC
      clear hr hh hcl2 hL2
      by_cases hhm : h < m
      · have hneg := HLT.out h L hL1 hhm
        have hd : decide (cmpL L x < 0) = true := decide_eq_true hneg
        clear hL1 hneg
        generalize cmpL L x = cvv at *
        go_wp2_with fail
        refine HC.out.mono ?_
        rintro e w' ⟨rfl, rfl⟩
        go_wp2_with fail
        go_roundg (j - (h + 1))
        case measure => omega
        case rel => exact ⟨h + 1, j, by omega, by omega, by omega, by omega, by go_num, rfl, rfl⟩
      · have hneg := HGE.out h L hL1 (by omega)
        have hd : decide (cmpL L x < 0) = false := decide_eq_false (by omega)
        clear hL1 hneg
        generalize cmpL L x = cvv at *
        go_wp2_with fail
        refine HC.out.mono ?_
        rintro e w' ⟨rfl, rfl⟩
        go_wp2_with fail
        go_roundg (h - i)
        case measure => omega
        case rel => exact ⟨i, h, by omega, by omega, by omega, by omega, rfl, rfl, rfl⟩
    · obtain rfl : i = m := by omega
      obtain rfl : j = i := by omega
      have hlt' : ¬ (j : Int) < (j : Int) := by omega
      have hmP : (j : Int) < (Ls.length : Int) := by omega
      obtain ⟨u, g, o, -, hA, q0, hr⟩ := HT.out.row (rowsN_at HSX.out.1)
      subst hA
      obtain ⟨Ar, cr, rfl, -⟩ := hr.form
      have HC := Lib.hid (HCP.out _ x hr HSX.out.2)
      rw [hcl, cmpL_self] at HC
      rw [hcl] at q0
      clear hr
      go_wp2_with fail
      refine HC.out.mono ?_
      rintro e w' ⟨rfl, rfl⟩
      go_wp2_with fail
      go_ret2
      exact ⟨rfl, rfl⟩
end Go.Proofs.Ytpeobnmfndelhaa.lists

/- The contracts of the program's huntFrom and TrapsOf. -/
namespace Go.Proofs.Ytpeobnmfndelhaa.lists
open Go.RowKit P2 words edges ints good adjs fns sets rets apps gridr grid trip covs bitsI times mids filled cops
set_option linter.unusedVariables false

/-- the place of a list of cops -/
def placeOf (n : Nat) (tl : List Int) : Nat := (listsN n tl.length 0).idxOf (tl.map Int.toNat)
theorem cops_cast {n : Nat} {l : List Ed} {tl : List Int} (h : CopsOk (n : Int) l tl) : castL (tl.map Int.toNat) = tl := by
  unfold castL
  rw [List.map_map]
  conv => rhs; rw [← List.map_id tl]
  refine List.map_congr_left fun x hx => ?_
  have := h.2.2.1 x hx
  simp only [Function.comp, id]; omega
theorem place_at {n : Nat} {l : List Ed} {tl : List Int} (h : CopsOk (n : Int) l tl) : (listsN n tl.length 0)[placeOf n tl]? = some (tl.map Int.toNat) := by
  have hm : tl.map Int.toNat ∈ listsN n tl.length 0 := lists_iff.2 ⟨by simp, by
    have hu := h.2.2.2
    unfold Up at hu
    unfold upN
    rw [List.pairwise_map]
    exact hu.imp (fun {a b} hab => by omega), fun x hx => by
    obtain ⟨y, hy, rfl⟩ := List.mem_map.1 hx
    have := h.2.2.1 y hy
    omega⟩
  have hlt := List.idxOf_lt_length_of_mem hm
  unfold placeOf
  rw [List.getElem?_eq_getElem hlt, List.getElem_idxOf hlt]
theorem cops_field {n : Nat} {l : List Ed} {tl : List Int} (h : CopsOk (n : Int) l tl) : FieldP (n : Int) l (tl.length : Int) := by
  obtain ⟨x, hx⟩ : ∃ x, tl[0]? = some x := ⟨_, List.getElem?_eq_getElem (by have := h.2.1.1; omega)⟩
  have := h.2.2.1 x (List.mem_of_getElem? hx)
  exact ⟨h.1, by omega, by have := h.2.1.1; omega, by have := h.2.1.2; omega⟩
set_option maxHeartbeats 2000000 in
set_option maxRecDepth 100000 in
theorem huntFrom_yes (n : Nat) (v u : Value) (l : List Ed) (tl : List Int) (w : World) (h : Edges w v l) (hl : l.length ≤ 1048576) (hu : Ints w u tl) (hok : CopsOk (n : Int) l tl) :
    Calls Try.prog 73 #[.agg #[.int .i64 (n : Int), v], u] w fun e w' => ∃ Ac xc cc At xt ct Am xm cm A1 c1 A2 x2 c2 us', e = .returned (.tuple #[.agg #[.slice Ac xc cc, .slice At xt ct, .slice Am xm cm, .slice A1 (gameN l n tl.length).P c1, .slice A2 x2 c2], .int .i64 (placeOf n tl : Int), .bool true]) ∧
      OwnG w' w.heap.size (.slice A1 (gameN l n tl.length).P c1) us' (gridG (gameN l n tl.length).P n (tms (gameN l n tl.length))) ∧ Below w.heap.size w w' := by
  obtain ⟨A, c, rfl, -⟩ := h.form
  obtain ⟨A9, c9, rfl, -⟩ := hu.form
  have H := Lib.hid h
  have HU := Lib.hid hu
  have HOK := Lib.hid hok
  have HF := Lib.hid (cops_field hok)
  have htl := hok.2.1.2
  have b0 : Below w.heap.size w ((w.alloc (.cells #[.int .i64 (n : Int), .slice A l.length c] 30)).alloc (.cells #[.slice none 0 0, .slice none 0 0, .slice none 0 0, .slice none 0 0, .slice none 0 0] 82)) := ((Below.refl _ _).alloc (Nat.le_refl _) _).alloc (by simp) _
  have g0 := (Blk.new w 30 #[.int .i64 (n : Int), .slice A l.length c]).alloc (.cells #[.slice none 0 0, .slice none 0 0, .slice none 0 0, .slice none 0 0, .slice none 0 0] 82)
  have r0 := Blk.new (w.alloc (.cells #[.int .i64 (n : Int), .slice A l.length c] 30)) 82 #[.slice none 0 0, .slice none 0 0, .slice none 0 0, .slice none 0 0, .slice none 0 0]
  rw [World.size_alloc] at r0
  have HIC := Lib.hid (isCops_any (n : Int) _ _ l tl _ (h.below b0) hl (hu.below b0) (by omega))
  rw [okG_yes hok] at HIC
  obtain ⟨p0, p1, -, -⟩ := g0.two
  clear h hu hok
  go_enter Try.func73, Try.ntmps73
  go_wp2_with fail
  refine HIC.out.mono ?_
  rintro e w1 ⟨rfl, b1⟩
  have e1 := btrans b0 b1
  have g1 := g0.below b1 g0.lt
  have r1 := r0.below b1 r0.lt
  clear HIC p0 p1 b0 g0 r0 b1
  obtain ⟨p0, p1, -, -⟩ := g1.two
  go_wp2_with fail
  refine (huntIn_yes n tl.length (.slice A l.length c) l w1 (H.out.below e1) hl HF.out).mono ?_
  rintro e w2 ⟨cv, tv, mv, xv, lv, us, us', ul, rfl, hCR, hxf, hx, hlf, hlo, b2⟩
  rw [gridG_len] at hxf
  obtain ⟨A1, c1, rfl⟩ := hxf
  obtain ⟨A2, c2, rfl⟩ := hlf
  obtain ⟨Ac, cc, rfl, -⟩ := hCR.closed.form
  obtain ⟨At, ct, rfl, -⟩ := hCR.taken.form
  obtain ⟨Am, cm, rfl, -⟩ := hCR.lists.1
  have e2 := btrans e1 b2
  have r2 := r1.below b2 r1.lt
  generalize (clos l (gameN l n tl.length).n).length = x1 at *
  generalize (codesL (gameN l n tl.length).P (gameN l n tl.length).n (gameN l n tl.length).tk).length = x3 at *
  generalize (mvG l n tl.length).length = x4 at *
  generalize hPP : (gameN l n tl.length).P = P at *
  have HPP := Lib.hid hPP
  clear hPP
  have HLO := Lib.hid (gridl.readsG_of_own hlo)
  have hOR : w.heap.size + 1 ≠ w2.heap.size := by have := r2.lt; omega
  have b3 : Below w2.heap.size w2 (w2.alloc (.cells #[.slice Ac x1 cc, .slice At x3 ct, .slice Am x4 cm, .slice A1 P c1, .slice A2 (rowsN (listsN n tl.length 0)).length c2] 82)) := (Below.refl _ _).alloc (Nat.le_refl _) _
  have hbk := Blk.new w2 82 #[.slice Ac x1 cc, .slice At x3 ct, .slice Am x4 cm, .slice A1 P c1, .slice A2 (rowsN (listsN n tl.length 0)).length c2]
  obtain ⟨t0, t1, t2, t3, t4⟩ := blk5 hbk
  have r3 := r2.below b3 r2.lt
  have HBI := Lib.hid (binary_any _ (.slice A9 tl.length c9) ul (listsN n tl.length 0) (tl.map Int.toNat) tl.length (placeOf n tl) _ (HLO.out.below b3) (by rw [cops_cast HOK.out]; exact HU.out.below (btrans e2 b3)) (place_at HOK.out) (lists_lex n _ _) (fun L hL => (lists_mem _ _ L hL).1) htl (by have := game_small (n := n) (k := tl.length) (by have := HOK.out.1.2.1; omega) htl; omega))
  obtain ⟨s0, s1, s2, s3, s4⟩ := blk5 r3
  have y0 := r3.frozen 0
  have y1 := r3.frozen 1
  have y2 := r3.frozen 2
  have y3 := r3.frozen 3
  have y4 := r3.frozen 4
  have HX := Lib.hid ((hx.base (by exact e1.size)).below b3)
  have HE3 := Lib.hid (btrans e2 b3)
  have HR3 := Lib.hid r3
  clear b3 e2 e1 r1 r2 r3 g1 hlo hx hCR b2 p0 p1 hbk
  generalize (rowsN (listsN n tl.length 0)).length = x2 at *
  go_wp2_with fail
  refine HBI.out.mono ?_
  rintro e w' ⟨rfl, rfl⟩
  go_wp2_with fail
  have h5 := (((((HR3.out.set_ 0 (.slice Ac x1 cc)).set_ 1 (.slice At x3 ct)).set_ 2 (.slice Am x4 cm)).set_ 3 (.slice A1 P c1)).set_ 4 (.slice A2 x2 c2))
  have hb5 : Blk ((((((w2.alloc (.cells #[.slice Ac x1 cc, .slice At x3 ct, .slice Am x4 cm, .slice A1 P c1, .slice A2 x2 c2] 82)).setCell ⟨w.heap.size + 1, 0, none⟩ (.slice Ac x1 cc)).setCell ⟨w.heap.size + 1, 1, none⟩ (.slice At x3 ct)).setCell ⟨w.heap.size + 1, 2, none⟩ (.slice Am x4 cm)).setCell ⟨w.heap.size + 1, 3, none⟩ (.slice A1 P c1)).setCell ⟨w.heap.size + 1, 4, none⟩ (.slice A2 x2 c2)) (w.heap.size + 1) 82 #[.slice Ac x1 cc, .slice At x3 ct, .slice Am x4 cm, .slice A1 P c1, .slice A2 x2 c2] := by simpa using h5
  obtain ⟨q0, q1, q2, q3, q4⟩ := blk5 hb5
  have hX5 := OwnG.kept_c HX.out HR3.out (by decide) (by decide) (gset (gset (gset (gset (gset (World.grownBy.refl _ (some (w.heap.size + 1))) 0 (.slice Ac x1 cc)) 1 (.slice At x3 ct)) 2 (.slice Am x4 cm)) 3 (.slice A1 P c1)) 4 (.slice A2 x2 c2))
  have hB5 := (((((HE3.out.setCell (p := ⟨w.heap.size + 1, 0, none⟩) (Nat.le_succ _) (.slice Ac x1 cc)).setCell (p := ⟨w.heap.size + 1, 1, none⟩) (Nat.le_succ _) (.slice At x3 ct)).setCell (p := ⟨w.heap.size + 1, 2, none⟩) (Nat.le_succ _) (.slice Am x4 cm)).setCell (p := ⟨w.heap.size + 1, 3, none⟩) (Nat.le_succ _) (.slice A1 P c1)).setCell (p := ⟨w.heap.size + 1, 4, none⟩) (Nat.le_succ _) (.slice A2 x2 c2))
  refine bodyPost_ret (v := .tuple #[.agg #[.slice Ac x1 cc, .slice At x3 ct, .slice Am x4 cm, .slice A1 P c1, .slice A2 x2 c2], .int .i64 (placeOf n tl : Int), .bool true]) (by simp [results, Try.results73, go_sem, q0, q1, q2, q3, q4]) rfl ?_
  rw [HPP.out]
  exact ⟨Ac, x1, cc, At, x3, ct, Am, x4, cm, A1, c1, A2, x2, c2, us', rfl, hX5, hB5⟩
set_option maxHeartbeats 1000000 in
set_option maxRecDepth 100000 in
theorem huntFrom_no (s : Int) (v u : Value) (l : List Ed) (tl : List Int) (w : World) (h : Edges w v l) (hl : l.length ≤ 1048576) (hu : Ints w u tl) (htl : tl.length ≤ 1048576) (hok : ¬ CopsOk s l tl) :
    Calls Try.prog 73 #[.agg #[.int .i64 s, v], u] w fun e w' => e = .returned (.tuple #[.agg #[.slice none 0 0, .slice none 0 0, .slice none 0 0, .slice none 0 0, .slice none 0 0], .int .i64 0, .bool false]) ∧ Below w.heap.size w w' := by
  obtain ⟨A, c, rfl, -⟩ := h.form
  have b0 : Below w.heap.size w ((w.alloc (.cells #[.int .i64 s, .slice A l.length c] 30)).alloc (.cells #[.slice none 0 0, .slice none 0 0, .slice none 0 0, .slice none 0 0, .slice none 0 0] 82)) := ((Below.refl _ _).alloc (Nat.le_refl _) _).alloc (by simp) _
  have g0 := (Blk.new w 30 #[.int .i64 s, .slice A l.length c]).alloc (.cells #[.slice none 0 0, .slice none 0 0, .slice none 0 0, .slice none 0 0, .slice none 0 0] 82)
  have r0 := Blk.new (w.alloc (.cells #[.int .i64 s, .slice A l.length c] 30)) 82 #[.slice none 0 0, .slice none 0 0, .slice none 0 0, .slice none 0 0, .slice none 0 0]
  rw [World.size_alloc] at r0
  have HIC := Lib.hid (isCops_any s _ _ l tl _ (h.below b0) hl (hu.below b0) htl)
  rw [okG_no hok] at HIC
  obtain ⟨p0, p1, -, -⟩ := g0.two
  clear h hu hok
  go_enter Try.func73, Try.ntmps73
  go_wp2_with fail
  refine HIC.out.mono ?_
  rintro e w1 ⟨rfl, b1⟩
  have HE1 := Lib.hid (btrans b0 b1)
  have HR1 := Lib.hid (r0.below b1 r0.lt)
  obtain ⟨s0, s1, s2, s3, s4⟩ := blk5 HR1.out
  have y0 := HR1.out.frozen 0
  have y1 := HR1.out.frozen 1
  have y2 := HR1.out.frozen 2
  have y3 := HR1.out.frozen 3
  have y4 := HR1.out.frozen 4
  clear HIC p0 p1 b0 g0 r0 b1
  go_wp2_with fail
  have h5 := (((((HR1.out.set_ 0 (.slice none 0 0)).set_ 1 (.slice none 0 0)).set_ 2 (.slice none 0 0)).set_ 3 (.slice none 0 0)).set_ 4 (.slice none 0 0))
  have hb5 : Blk (((((w1.setCell ⟨w.heap.size + 1, 0, none⟩ (.slice none 0 0)).setCell ⟨w.heap.size + 1, 1, none⟩ (.slice none 0 0)).setCell ⟨w.heap.size + 1, 2, none⟩ (.slice none 0 0)).setCell ⟨w.heap.size + 1, 3, none⟩ (.slice none 0 0)).setCell ⟨w.heap.size + 1, 4, none⟩ (.slice none 0 0)) (w.heap.size + 1) 82 #[.slice none 0 0, .slice none 0 0, .slice none 0 0, .slice none 0 0, .slice none 0 0] := by simpa using h5
  obtain ⟨q0, q1, q2, q3, q4⟩ := blk5 hb5
  refine bodyPost_ret (v := .tuple #[.agg #[.slice none 0 0, .slice none 0 0, .slice none 0 0, .slice none 0 0, .slice none 0 0], .int .i64 0, .bool false]) (by simp [results, Try.results73, go_sem, q0, q1, q2, q3, q4]) rfl ⟨rfl, (((((HE1.out.setCell (p := ⟨w.heap.size + 1, 0, none⟩) (Nat.le_succ _) (.slice none 0 0)).setCell (p := ⟨w.heap.size + 1, 1, none⟩) (Nat.le_succ _) (.slice none 0 0)).setCell (p := ⟨w.heap.size + 1, 2, none⟩) (Nat.le_succ _) (.slice none 0 0)).setCell (p := ⟨w.heap.size + 1, 3, none⟩) (Nat.le_succ _) (.slice none 0 0)).setCell (p := ⟨w.heap.size + 1, 4, none⟩) (Nat.le_succ _) (.slice none 0 0))⟩
/-- the nodes with a time of at most 2 -/
def trapR (n : Nat) (f : Nat → Int) : List Int := nw (fun y => decide (0 ≤ f y) && decide (f y ≤ 2)) n
noncomputable def trapL (s : Int) (l : List Ed) (tl : List Int) : List Int := trapR s.toNat (tms (gameN l s.toNat tl.length) (placeOf s.toNat tl))
theorem trap_len (s : Int) (l : List Ed) (tl : List Int) : (inG (CopsOk s l tl) (trapL s l tl)).length ≤ 1048576 := inG_len fun h => by
  have h1 := nw_len (fun y => decide (0 ≤ tms (gameN l s.toNat tl.length) (placeOf s.toNat tl) y) && decide (tms (gameN l s.toNat tl.length) (placeOf s.toNat tl) y ≤ 2)) s.toNat
  have h2 := h.1.1
  have h3 := h.1.2.1
  unfold trapL trapR; omega
theorem trapClo_any (n x b : Nat) (u : Value) (f : Nat → Int) (w : World) (h1 : w.cell? ⟨b, 0, none⟩ = some u) (hu : Ints w u (rowG n f)) (hx : x < n) :
    Calls Try.prog 74 #[.int .i64 (x : Int), .pointer (some ⟨b, 0, none⟩)] w fun e w' => e = .returned (.bool (decide (0 ≤ f x) && decide (f x ≤ 2))) ∧ w = w' := by
  obtain ⟨A, c, rfl, hc⟩ := hu.form
  obtain ⟨g, o, rfl, q0⟩ := hc x _ (rowG_at hx)
  have hl := rowG_len n f
  rw [hl] at h1
  have hx0 : (0 : Int) ≤ (x : Int) := by omega
  have hxn : (x : Int) < (n : Int) := by omega
  clear hu hc hl
  cases hp : decide (0 ≤ f x) with
  | true =>
    rw [Bool.true_and]
    go_enter Try.func74, Try.ntmps74
    go_wp2_with fail
    go_ret
    exact ⟨rfl, rfl⟩
  | false =>
    rw [Bool.false_and]
    go_enter Try.func74, Try.ntmps74
    go_wp2_with fail
    go_ret
    exact ⟨rfl, rfl⟩
theorem trapClo_fn (n b : Nat) (u : Value) (f : Nat → Int) (w : World) (h1 : w.cell? ⟨b, 0, none⟩ = some u) (hu : Ints w u (rowG n f)) :
    Fn1 w 74 #[.pointer (some ⟨b, 0, none⟩)] n (fun y => decide (0 ≤ f y) && decide (f y ≤ 2)) where
  enter := fun _ _ => by kernel_rfl
  call := fun W hb y hy => (trapClo_any n y b u f W (nearv.cell_keep h1 hb) (hu.below hb) hy).mono fun _ _ ⟨he, hw⟩ => ⟨he, hw ▸ Below.refl _ _⟩
set_option maxHeartbeats 2000000 in
set_option maxRecDepth 100000 in
theorem implTraps_any (s : Int) (v u : Value) (l : List Ed) (tl : List Int) (w : World) (h : Edges w v l) (hl : l.length ≤ 1048576) (hu : Ints w u tl) (htl : tl.length ≤ 1048576) :
    Calls Try.prog 31 #[.agg #[.int .i64 s, v], u] w (RetI w (CopsOk s l tl) (trapL s l tl)) := by
  obtain ⟨A, c, rfl, -⟩ := h.form
  have H := Lib.hid h
  have HU := Lib.hid hu
  have b0 : Below w.heap.size w (w.alloc (.cells #[.int .i64 s, .slice A l.length c] 30)) := (Below.refl _ _).alloc (Nat.le_refl _) _
  have g0 := Blk.new w 30 #[.int .i64 s, .slice A l.length c]
  have hmf : ∀ (fn : Fn) (first cap : Array Value) (w : World), (Instr.makeFunc fn first cap).run Try.prog w = .ok (.func fn first cap) w := fun _ _ _ _ => rfl
  obtain ⟨p0, p1, -, -⟩ := g0.two
  clear h hu
  by_cases hok : CopsOk s l tl
  · obtain ⟨n, rfl⟩ : ∃ n : Nat, s = (n : Int) := ⟨s.toNat, by have := hok.1.1; omega⟩
    have hn : n ≤ 8 := by have := hok.1.2.1; omega
    have HOK := Lib.hid hok
    have HH := Lib.hid (huntFrom_yes n (.slice A l.length c) u l tl _ (H.out.below b0) hl (HU.out.below b0) hok)
    have HV : Hid (trapL (n : Int) l tl = trapR n (tms (gameN l n tl.length) (placeOf n tl))) := rfl
    rw [HV.out]
    have hpl : placeOf n tl < (gameN l n tl.length).P := (List.getElem?_eq_some_iff.1 (place_at hok)).1
    have hpl' : (placeOf n tl : Int) < ((gameN l n tl.length).P : Int) := by omega
    have hpl0 : (0 : Int) ≤ (placeOf n tl : Int) := by omega
    clear hok
    go_enter Try.func31, Try.ntmps31
    go_wp2_with fail
    refine HH.out.mono ?_
    rintro e w2 ⟨Ac, x1, cc, At, x3, ct, Am, x4, cm, A1, c1, A2, x2, c2, us', rfl, hX, b2⟩
    have e2 := btrans b0 b2
    have g2 := g0.below b2 g0.lt
    have HR2 := Lib.hid (gridl.readsG_of_own hX)
    obtain ⟨r, g, o, -, hA, q0, hr⟩ := HR2.out.row (gridG_at (T := tms (gameN l n tl.length)) (n := n) hpl)
    subst hA
    obtain ⟨Ar, cr, rfl, -⟩ := hr.form
    have hrl := rowG_len n (tms (gameN l n tl.length) (placeOf n tl))
    rw [hrl] at q0
    have HGN := Lib.hid (gridG_len (gameN l n tl.length).P n (tms (gameN l n tl.length)))
    have b3 : Below w2.heap.size w2 (w2.alloc (.cells #[.slice Ac x1 cc, .slice At x3 ct, .slice Am x4 cm, .slice (some ⟨g, o, none⟩) (gameN l n tl.length).P c1, .slice A2 x2 c2] 82)) := (Below.refl _ _).alloc (Nat.le_refl _) _
    have hbk := Blk.new w2 82 #[.slice Ac x1 cc, .slice At x3 ct, .slice Am x4 cm, .slice (some ⟨g, o, none⟩) (gameN l n tl.length).P c1, .slice A2 x2 c2]
    obtain ⟨t0, t1, t2, t3, t4⟩ := blk5 hbk
    have q1 := nearv.cell_keep q0 b3
    have b4 : Below w2.heap.size w2 ((w2.alloc (.cells #[.slice Ac x1 cc, .slice At x3 ct, .slice Am x4 cm, .slice (some ⟨g, o, none⟩) (gameN l n tl.length).P c1, .slice A2 x2 c2] 82)).alloc (.cells #[.slice Ar n cr] 25)) := b3.alloc (by simp) _
    have hvb := Blk.new (w2.alloc (.cells #[.slice Ac x1 cc, .slice At x3 ct, .slice Am x4 cm, .slice (some ⟨g, o, none⟩) (gameN l n tl.length).P c1, .slice A2 x2 c2] 82)) 25 #[.slice Ar n cr]
    rw [World.size_alloc] at hvb
    have g4 := ((g2.alloc (.cells #[.slice Ac x1 cc, .slice At x3 ct, .slice Am x4 cm, .slice (some ⟨g, o, none⟩) (gameN l n tl.length).P c1, .slice A2 x2 c2] 82)).alloc (.cells #[.slice Ar n cr] 25)).two
    obtain ⟨k0, k1, -, -⟩ := g4
    have hr4 := hr.below b4
    have HNW := Lib.hid (nodesWhere_any n _ _ _ _ hn (trapClo_fn n (w2.heap.size + 1) _ (tms (gameN l n tl.length) (placeOf n tl)) _ (hvb.cell 0) (by rw [hrl] at hr4; unfold Ints; rw [hrl]; exact hr4)))
    have HE4 := Lib.hid (btrans e2 b4)
    have HTR : Hid (nw (fun y => decide (0 ≤ tms (gameN l n tl.length) (placeOf n tl) y) && decide (tms (gameN l n tl.length) (placeOf n tl) y ≤ 2)) n = trapR n (tms (gameN l n tl.length) (placeOf n tl))) := rfl
    rw [HTR.out] at HNW
    clear hr hr4 hvb b4 b3 hbk e2 b2 g2 hX HH b0 g0 hrl p0 p1
    go_wp2_with fail
    refine HNW.out.mono ?_
    rintro e w5 ⟨A6, c6, rfl, o5, b5⟩
    go_wp2_with fail
    go_ret2
    exact RetI.yes HOK.out (own_base o5 HE4.out.size) (btrans HE4.out b5)
  · have HH := Lib.hid (huntFrom_no s (.slice A l.length c) u l tl _ (H.out.below b0) hl (HU.out.below b0) htl hok)
    have HN := Lib.hid hok
    clear hok
    go_enter Try.func31, Try.ntmps31
    go_wp2_with fail
    refine HH.out.mono ?_
    rintro e w1 ⟨rfl, b1⟩
    have hB1 := btrans b0 b1
    have HB2 := Lib.hid (hB1.alloc hB1.size (.cells #[.slice none 0 0, .slice none 0 0, .slice none 0 0, .slice none 0 0, .slice none 0 0] 82))
    clear HH b1 hB1 p0 p1 g0
    go_wp2_with fail
    go_ret2
    exact RetI.nil HN.out HB2.out
end Go.Proofs.Ytpeobnmfndelhaa.lists

/- The contract of slices.Max over integers. -/
namespace Go.Proofs.Ytpeobnmfndelhaa.maxi
open Go.RowKit P2 words ints
set_option linter.unusedVariables false

def MaxIs (xs : List Int) (M : Int) : Prop := (∀ y ∈ xs, y ≤ M) ∧ M ∈ xs
/-- the greatest so far -/
def MaxTo (xs : List Int) (k : Nat) (M : Int) : Prop := (∀ j y, j < k → xs[j]? = some y → y ≤ M) ∧ M ∈ xs
theorem MaxTo.succ {xs : List Int} {k : Nat} {M y : Int} (h : MaxTo xs k M) (hy : xs[k]? = some y) : MaxTo xs (k + 1) (if M < y then y else M) := by
  rw [show (if M < y then y else M) = max M y from by split <;> omega]
  refine ⟨fun j z hj hz => ?_, ?_⟩
  · by_cases e : j = k
    · subst e; rw [hy] at hz; cases hz; omega
    · have := h.1 j z (by omega) hz; omega
  · by_cases e : M ≤ y
    · rw [Int.max_eq_right e]; exact List.mem_of_getElem? hy
    · rw [Int.max_eq_left (by omega)]; exact h.2
theorem MaxTo.all {xs : List Int} {M : Int} (h : MaxTo xs xs.length M) : MaxIs xs M :=
  ⟨fun y hy => by
    obtain ⟨j, hj⟩ := List.mem_iff_getElem?.1 hy
    exact h.1 j y (List.getElem?_eq_some_iff.1 hj).1 hj, h.2⟩
set_option maxHeartbeats 1000000 in
theorem max_any (u : Value) (xs : List Int) (w : World) (hu : Ints w u xs) (hxl : xs.length ≤ 1048576) (h0 : 0 < xs.length) :
    Calls Try.prog 125 #[u] w fun e w' => ∃ M, e = .returned (.int .i64 M) ∧ MaxIs xs M ∧ w = w' := by
  obtain ⟨A2, c2, rfl, hc⟩ := hu.form
  have HC := Lib.hid hc
  obtain ⟨y0, hy0⟩ : ∃ y, xs[0]? = some y := ⟨_, List.getElem?_eq_getElem h0⟩
  obtain ⟨g0, o0, rfl, q0⟩ := hc 0 y0 hy0
  have HM0 : Hid (MaxTo xs 1 y0) := ⟨fun j y hj hy => by
    have : j = 0 := by omega
    subst this
    rw [hy0] at hy; cases hy; exact Int.le_refl _, List.mem_of_getElem? hy0⟩
  have h0' : ¬ ((xs.length : Int) < 1) := by omega
  have h1' : (0 : Int) < (xs.length : Int) := by omega
  clear hu hc hy0
  rw [Nat.add_zero] at q0
  go_enter Try.func125, Try.ntmps125
  go_wp2_with fail
  go_loop [3, 4] (fun m i => ∃ (k : Nat) (M : Int), k ≤ xs.length ∧ i = .int .i64 (k : Int) ∧ m = .int .i64 M ∧ Hid (MaxTo xs k M)) (fun _ i => xs.length - (intOf i).toNat)
  case atStart => exact ⟨1, y0, by omega, rfl, rfl, HM0⟩
  case round =>
    clear HM0
    obtain ⟨k, M, hk, rfl, rfl, hm⟩ := hrel
    by_cases hlt : k < xs.length
    · obtain ⟨y, hy⟩ : ∃ y, xs[k]? = some y := ⟨_, List.getElem?_eq_getElem hlt⟩
      obtain ⟨g, o, hgo, c0⟩ := HC.out k y hy
      obtain ⟨rfl, rfl⟩ : g0 = g ∧ o0 = o := by simpa using hgo
      have hlt' : (k : Int) < (xs.length : Int) := by omega
      have HM1 := Lib.hid (hm.out.succ hy)
      clear hy hm
      go_wp2_with fail
      go_round
      case rel => exact ⟨k + 1, _, by omega, by go_num, rfl, HM1⟩
      case measure => simp [intOf]; omega
    · obtain rfl : k = xs.length := by omega
      have HM1 : Hid (MaxIs xs M) := hm.out.all
      go_wp2_with fail
      go_ret
      exact ⟨M, rfl, HM1.out, rfl⟩
end Go.Proofs.Ytpeobnmfndelhaa.maxi

/- The least of the greatest times: plain mathematics. -/
namespace Go.Proofs.Ytpeobnmfndelhaa.times
open Go.RowKit P2 words fns sets covs maxi
set_option linter.unusedVariables false

/-- the greatest time of a place, -1 if one is -1 -/
def worstR (n : Nat) (T : Nat → Nat → Int) (c : Nat) : Int := worstL (fun x => x) (rowG n (T c))
def capK (n : Nat) (T : Nat → Nat → Int) : Nat → Option Nat
  | 0 => none
  | k + 1 => match capK n T k with
    | none => if 0 ≤ worstR n T k then some k else none
    | some b => if 0 ≤ worstR n T k ∧ worstR n T k < worstR n T b then some k else some b
def capN (o : Option Nat) : Int := match o with | some b => (b : Int) | none => 0
def capV (n : Nat) (T : Nat → Nat → Int) (o : Option Nat) : Int := match o with | some b => worstR n T b | none => 0
theorem capK_lt {n : Nat} {T : Nat → Nat → Int} : ∀ {k b : Nat}, capK n T k = some b → b < k ∧ 0 ≤ worstR n T b
  | 0, b, h => by cases h
  | k + 1, b, h => by
    unfold capK at h
    cases hk : capK n T k with
    | none =>
      rw [hk] at h
      simp only at h
      split at h
      · rename_i h0; cases h; exact ⟨by omega, h0⟩
      · cases h
    | some b' =>
      rw [hk] at h
      have ih := capK_lt hk
      simp only at h
      split at h
      · rename_i h0; cases h; exact ⟨by omega, h0.1⟩
      · cases h; exact ⟨by omega, ih.2⟩
theorem capK_skip {n k : Nat} {T : Nat → Nat → Int} (h : worstR n T k < 0) : capK n T (k + 1) = capK n T k := by
  show (match capK n T k with | none => _ | some b => _) = _
  cases capK n T k with
  | none => simp only; rw [if_neg (by omega)]
  | some b => simp only; rw [if_neg (by omega)]
theorem capK_first {n k : Nat} {T : Nat → Nat → Int} (h : 0 ≤ worstR n T k) (ho : capK n T k = none) : capK n T (k + 1) = some k := by
  show (match capK n T k with | none => _ | some b => _) = _
  rw [ho]; simp only; rw [if_pos h]
theorem capK_less {n k b : Nat} {T : Nat → Nat → Int} (h : 0 ≤ worstR n T k) (ho : capK n T k = some b) (hl : worstR n T k < worstR n T b) : capK n T (k + 1) = some k := by
  show (match capK n T k with | none => _ | some b => _) = _
  rw [ho]; simp only; rw [if_pos ⟨h, hl⟩]
theorem capK_more {n k b : Nat} {T : Nat → Nat → Int} (ho : capK n T k = some b) (hl : ¬ worstR n T k < worstR n T b) : capK n T (k + 1) = some b := by
  show (match capK n T k with | none => _ | some b => _) = _
  rw [ho]; simp only; rw [if_neg (fun h => hl h.2)]
theorem worst_has {n k : Nat} {T : Nat → Nat → Int} (hT : ∀ p r, -1 ≤ T p r) : decide ((-1 : Int) ∈ rowG n (T k)) = decide (worstR n T k < 0) := by
  rw [decide_eq_decide]
  unfold worstR
  constructor
  · intro h
    obtain ⟨j, hj⟩ := List.getElem?_of_mem h
    rw [worst_no hj (by omega)]; omega
  · intro h
    apply Classical.byContradiction
    intro hn
    have : 0 ≤ worstL (fun x => x) (rowG n (T k)) := worst_iff.2 fun b hb => by
      obtain ⟨x, hx, rfl⟩ := List.mem_map.1 hb
      have := hT k x
      rcases Int.lt_or_le (T k x) 0 with h9 | h9
      · exact absurd (by rw [show (-1 : Int) = T k x from by omega]; exact hb) hn
      · exact h9
    omega
theorem worst_max {n k : Nat} {T : Nat → Nat → Int} {M : Int} (h : 0 ≤ worstR n T k) (hM : MaxIs (rowG n (T k)) M) : M = worstR n T k := by
  unfold worstR at *
  have h1 := (worst_le h (j := M)).2 ⟨(worst_iff.1 h) M hM.2, hM.1⟩
  have h2 := ((worst_le h (j := worstL (fun x => x) (rowG n (T k)))).1 (Int.le_refl _)).2 M hM.2
  omega

theorem capK_none {n : Nat} {T : Nat → Nat → Int} : ∀ {k : Nat}, capK n T k = none ↔ ∀ j, j < k → worstR n T j < 0
  | 0 => ⟨fun _ j hj => by omega, fun _ => rfl⟩
  | k + 1 => by
    constructor
    · intro h j hj
      cases hk : capK n T k with
      | some b =>
        by_cases hl : worstR n T k < worstR n T b ∧ 0 ≤ worstR n T k
        · rw [capK_less hl.2 hk hl.1] at h; cases h
        · by_cases h2 : worstR n T k < worstR n T b
          · have h3 : worstR n T k < 0 := by
              apply Classical.byContradiction; intro h4; exact hl ⟨h2, by omega⟩
            rw [capK_skip h3, hk] at h; cases h
          · rw [capK_more hk h2] at h; cases h
      | none =>
        have ih := (capK_none (k := k)).1 hk
        by_cases e : j = k
        · subst e
          apply Classical.byContradiction
          intro hn
          rw [capK_first (by omega) hk] at h; cases h
        · exact ih j (by omega)
    · intro h
      rw [capK_skip (h k (by omega))]
      exact capK_none.2 fun j hj => h j (by omega)
theorem capK_some {n k j : Nat} {T : Nat → Nat → Int} (hj : j < k) (h : 0 ≤ worstR n T j) : (capK n T k).isSome = true := by
  cases hk : capK n T k with
  | some b => rfl
  | none => have := capK_none.1 hk j hj; omega
end Go.Proofs.Ytpeobnmfndelhaa.times

/- The contract of the program's start, for any game. -/
namespace Go.Proofs.Ytpeobnmfndelhaa.times
open Go.RowKit P2 words edges ints good adjs fns sets rets covs bitsI bags gridr mids idx maxi
set_option linter.unusedVariables false

set_option maxHeartbeats 4000000 in
set_option maxRecDepth 100000 in
theorem start_grid (P n : Nat) (T : Nat → Nat → Int) (cv tv mv xv : Value) (us : List Value) (w : World) (hx : ReadsG w xv us (gridG P n T)) (hn : n ≤ 8) (hP : P ≤ 200) (hPn : 0 < P → 0 < n) (hT : ∀ p r, -1 ≤ T p r) :
    Calls Try.prog 67 #[.agg #[cv, tv, mv, xv]] w fun e w' => e = .returned (.tuple #[.int .i64 (capN (capK n T P)), .int .i64 (capV n T (capK n T P)), .bool (capK n T P).isSome]) ∧ Below w.heap.size w w' := by
  obtain ⟨A, c, rfl, -⟩ := hx.1
  have HX := Lib.hid hx
  rw [gridG_len]
  have b0 : Below w.heap.size w (w.alloc (.cells #[cv, tv, mv, .slice A P c] 80)) := (Below.refl _ _).alloc (Nat.le_refl _) _
  obtain ⟨p0, p1, p2, p3⟩ := blk4 (Blk.new w 80 #[cv, tv, mv, .slice A P c])
  have HB0 := Lib.hid b0
  have HTT := Lib.hid hT
  clear hx b0 hT
  go_enter Try.func67, Try.ntmps67
  go_wp2_with fail
  clear p0 p1 p2 p3
  go_loopg [5, 6, 7, 14] P (fun g bv lv fv iv wr => ∃ (k : Nat) (o : Option Nat), k + g = P ∧ iv = .int .i64 (k : Int) ∧ Hid (capK n T k = o) ∧ bv = .int .i64 (capN o) ∧ lv = .int .i64 (capV n T o) ∧ fv = .bool o.isSome ∧ wr = w.alloc (.cells #[cv, tv, mv, .slice A P c] 80))
  case atStart => exact ⟨0, none, by omega, rfl, rfl, rfl, rfl, rfl, rfl⟩
  case round =>
    obtain ⟨k, o, hkg, rfl, ho, rfl, rfl, rfl, rfl⟩ := hrel
    cases gk with
    | zero =>
      obtain rfl : P = k := by omega
      go_wp2_with fail
      go_ret3
      exact ⟨by rw [ho.out]; rfl, HB0.out⟩
    | succ g2 =>
      have hlt : k < P := by omega
      have hlt' : (k : Int) < (P : Int) := by omega
      obtain ⟨u, g, o', hu, rfl, c0, hr⟩ := (show ReadsG w (.slice A (gridG P n T).length c) us (gridG P n T) from HX.out).row (gridG_at (n := n) hlt)
      obtain ⟨Ar, cr, rfl, -⟩ := hr.form
      have q0 := nearv.cell_keep c0 HB0.out
      have hr2 : Ints (w.alloc (.cells #[cv, tv, mv, .slice (some ⟨g, o', none⟩) P c] 80)) (.slice Ar (rowG n (T k)).length cr) (rowG n (T k)) := hr.below HB0.out
      have hrl := rowG_len n (T k)
      have HCT := Lib.hid (contains_any _ (rowG n (T k)) (-1) _ hr2 (by omega))
      have HMX := Lib.hid (fun h => max_any _ (rowG n (T k)) _ hr2 (by omega) (h : 0 < (rowG n (T k)).length))
      rw [worst_has HTT.out] at HCT
      have HRL := Lib.hid hrl
      clear hr hr2 hu c0 hrl
      by_cases hneg : worstR n T k < 0
      · rw [decide_eq_true hneg] at HCT
        have HK : Hid (capK n T (k + 1) = o) := by show _ = _; rw [capK_skip hneg]; exact ho.out
        clear hneg HMX
        go_wp2_with fail
        refine HCT.out.mono ?_
        rintro e w' ⟨rfl, rfl⟩
        go_wp2_with fail
        go_roundg g2
        case measure => omega
        case rel => exact ⟨k + 1, o, by omega, by go_num, HK, rfl, rfl, rfl, rfl⟩
      · rw [decide_eq_false hneg] at HCT
        have HM2 := Lib.hid (HMX.out (by rw [HRL.out]; omega))
        have HWM := Lib.hid (fun M (hM : MaxIs (rowG n (T k)) M) => worst_max (by omega) hM)
        cases o with
        | none =>
          have HK := Lib.hid (capK_first (by omega) ho.out)
          clear hneg HMX
          go_wp2_with fail
          refine HCT.out.mono ?_
          rintro e w' ⟨rfl, rfl⟩
          go_wp2_with fail
          refine HM2.out.mono ?_
          rintro e w' ⟨M, rfl, hM, rfl⟩
          obtain rfl := HWM.out M hM
          clear hM
          go_wp2_with fail
          go_roundg g2
          case measure => omega
          case rel => exact ⟨k + 1, some k, by omega, by go_num, HK, rfl, rfl, rfl, rfl⟩
        | some b =>
          by_cases hless : worstR n T k < worstR n T b
          · have HK := Lib.hid (capK_less (by omega) ho.out hless)
            have d0 : decide (worstR n T k < capV n T (some b)) = true := decide_eq_true hless
            clear hneg HMX hless
            go_wp2_with fail
            refine HCT.out.mono ?_
            rintro e w' ⟨rfl, rfl⟩
            go_wp2_with fail
            refine HM2.out.mono ?_
            rintro e w' ⟨M, rfl, hM, rfl⟩
            obtain rfl := HWM.out M hM
            clear hM
            go_wp2_with fail
            go_roundg g2
            case measure => omega
            case rel => exact ⟨k + 1, some k, by omega, by go_num, HK, rfl, rfl, rfl, rfl⟩
          · have HK := Lib.hid (capK_more ho.out hless)
            have d0 : decide (worstR n T k < capV n T (some b)) = false := decide_eq_false hless
            clear hneg HMX hless
            go_wp2_with fail
            refine HCT.out.mono ?_
            rintro e w' ⟨rfl, rfl⟩
            go_wp2_with fail
            refine HM2.out.mono ?_
            rintro e w' ⟨M, rfl, hM, rfl⟩
            obtain rfl := HWM.out M hM
            clear hM
            go_wp2_with fail
            go_roundg g2
            case measure => omega
            case rel => exact ⟨k + 1, some b, by omega, by go_num, HK, rfl, rfl, rfl, rfl⟩

end Go.Proofs.Ytpeobnmfndelhaa.times

/- The contracts of the model's l4Worst and l4Wins, of both CanCatch and of both CopNumber. -/
namespace Go.Proofs.Ytpeobnmfndelhaa.lists
open Go.RowKit P2 words edges ints good adjs fns sets rets apps gridr grid trip covs bitsI times mids filled cops
set_option linter.unusedVariables false

noncomputable def canO (s k : Int) (l : List Ed) : Bool := okG (FieldP s l k) && (capK s.toNat (tms (gameN l s.toNat k.toNat)) (gameN l s.toNat k.toNat).P).isSome
theorem canO_no {s k : Int} {l : List Ed} (h : ¬ FieldP s l k) : canO s k l = false := by unfold canO; rw [okG_no h]; rfl
theorem canO_yes {s k : Int} {l : List Ed} (h : FieldP s l k) : canO s k l = (capK s.toNat (tms (gameN l s.toNat k.toNat)) (gameN l s.toNat k.toNat).P).isSome := by unfold canO; rw [okG_yes h]; rfl
set_option maxHeartbeats 1000000 in
set_option maxRecDepth 100000 in
theorem l4Worst_any (u : Value) (xs : List Int) (w : World) (hu : Ints w u xs) (hxl : xs.length ≤ 1048576) :
    Calls Try.prog 64 #[u] w fun e w' => e = .returned (.int .i64 (worstL (fun x => x) xs)) ∧ w = w' := by
  obtain ⟨A, c, rfl, hc⟩ := hu.form
  have HC := Lib.hid hc
  clear hu hc
  go_enter Try.func64, Try.ntmps64
  go_wp2_with fail
  go_loop [3, 4] (fun m i => ∃ k : Nat, k ≤ xs.length ∧ i = .int .i64 (k : Int) ∧ m = .int .i64 (mostL (fun x => x) (xs.take k)) ∧ Hid (∀ j y, j < k → xs[j]? = some y → 0 ≤ y)) (fun _ i => xs.length - (intOf i).toNat)
  case atStart => exact ⟨0, Nat.zero_le _, rfl, rfl, fun j y hj => by omega⟩
  case round =>
    obtain ⟨k, hk, rfl, rfl, hal⟩ := hrel
    by_cases hlt : k < xs.length
    · have hlt' : (k : Int) < (xs.length : Int) := by omega
      obtain ⟨y, hy⟩ : ∃ y, xs[k]? = some y := ⟨_, List.getElem?_eq_getElem hlt⟩
      obtain ⟨gr, orr, rfl, q0⟩ := HC.out k y hy
      by_cases hneg : y < 0
      · have HN : Hid (worstL (fun x => x) xs = -1) := worst_no hy hneg
        have d0 : decide (y < 0) = true := decide_eq_true hneg
        clear hy hneg
        go_wp2_with fail
        go_ret
        exact ⟨ret_int HN.out.symm, rfl⟩
      · have d0 : decide (y < 0) = false := decide_eq_false hneg
        have HK : Hid (∀ j z, j < k + 1 → xs[j]? = some z → 0 ≤ z) := fun j z hj hz => by
          by_cases e : j = k
          · subst e; rw [hy] at hz; cases hz; omega
          · exact hal.out j z (by omega) hz
        have HMS := Lib.hid (mostL_succ (f := fun x => x) hy)
        have HMO := Lib.hid (fun (W : World) => minmax.l1Most_any (mostL (fun x => x) (xs.take k)) y W)
        clear hy hneg
        go_wp2_with fail
        refine (HMO.out _).mono ?_
        rintro e w' ⟨rfl, rfl⟩
        go_wp2_with fail
        go_round
        case rel => exact ⟨k + 1, by omega, by go_num, by rw [HMS.out], HK⟩
        case measure => simp [intOf]; omega
    · obtain rfl : k = xs.length := by omega
      have HE : Hid (mostL (fun x => x) xs = worstL (fun x => x) xs) := by
        show _ = _
        rw [worst_yes (fun j b hj hb => hal.out j b hj hb)]
      go_wp2_with fail
      go_ret
      exact ⟨ret_int HE.out, rfl⟩
end Go.Proofs.Ytpeobnmfndelhaa.lists

/- The contract of the model's TrapsOf. -/
namespace Go.Proofs.Ytpeobnmfndelhaa.lists
open Go.RowKit Go.Maps P2 words edges ints good adjs fns sets rets apps gridr grid trip covs bitsI times mids filled cops
set_option linter.unusedVariables false

set_option maxHeartbeats 4000000 in
set_option maxRecDepth 100000 in
theorem specTraps_any (s : Int) (v u : Value) (l : List Ed) (tl : List Int) (w : World) (h : Edges w v l) (hl : l.length ≤ 1048576) (hu : Ints w u tl) (htl : tl.length ≤ 1048576) (hs1 : -9223372036854775808 ≤ s) (hs2 : s ≤ 9223372036854775807) :
    Calls Try.prog 30 #[.agg #[.int .i64 s, v], u] w (RetI w (CopsOk s l tl) (trapL s l tl)) := by
  obtain ⟨i0, hi, hz0, hz1, hz2⟩ := info_parts infoInt
  obtain ⟨A, c, rfl, -⟩ := h.form
  obtain ⟨A9, c9, rfl, -⟩ := hu.form
  have H := Lib.hid h
  have HU := Lib.hid hu
  have b0 : Below w.heap.size w ((w.alloc (.cells #[.int .i64 s, .slice A l.length c] 30)).alloc (.cells #[] 3)) := ((Below.refl _ _).alloc (Nat.le_refl _) _).alloc (by simp) _
  have g0 := (Blk.new w 30 #[.int .i64 s, .slice A l.length c]).alloc (.cells #[] 3)
  have o0 := own_new0 (w.alloc (.cells #[.int .i64 s, .slice A l.length c] 30)) 3 1
  rw [World.size_alloc] at o0
  have HG := Lib.hid (l4Field_any s (tl.length : Int) _ l _ (h.below b0) hl hs1 hs2)
  clear h hu
  by_cases hf : FieldP s l (tl.length : Int)
  · rw [okG_yes hf] at HG
    have h0 := hf.1.1
    have h8 := hf.1.2.1
    obtain ⟨n, rfl⟩ : ∃ n : Nat, s = (n : Int) := ⟨s.toNat, by omega⟩
    have hn : n ≤ 8 := by omega
    have hl3 : tl.length ≤ 3 := by have := hf.2.2.2; omega
    have HCO := Lib.hid (fun (W : World) (hW : Below w.heap.size w W) => l4Cops_any n (.slice A l.length c) (.slice A9 tl.length c9) l tl W (H.out.below hW) hl (HU.out.below hW) htl hn)
    by_cases hcp : CopP n tl
    · rw [okG_yes hcp] at HCO
      have hok : CopsOk (n : Int) l tl := ⟨hf.1, ⟨by have := hf.2.2.1; omega, hl3⟩, hcp.1, hcp.2⟩
      have HOK := Lib.hid hok
      have HV : Hid (trapL (n : Int) l tl = trapR n (tms (gameN l n tl.length) (placeOf n tl))) := rfl
      rw [HV.out]
      have hP := game_small (n := n) (k := tl.length) hn hl3
      have hPl : (gameN l n tl.length).P = (listsN n tl.length 0).length := rfl
      rw [← hPl] at hP
      have HM := Lib.hid (fun (W : World) (hb : Below w.heap.size w W) => l4Make_any n tl.length (.slice A l.length c) l W (H.out.below hb) hl hf.1 hn hl3)
      have HT := Lib.hid (fun fv mv bv uf um ub (W : World) (h : HS W l n tl.length fv mv bv uf um ub) => l4Times_any n tl.length fv mv bv uf um ub l W h hn hl3)
      have HAT := Lib.hid (fun (W : World) (t : Value) (us : List Value) (ht : ReadsG W t us (rowsN (listsN n tl.length 0))) (hW : Below w.heap.size w W) => l4At_any t (.slice A9 tl.length c9) us (listsN n tl.length 0) (tl.map Int.toNat) tl.length (placeOf n tl) W ht (by rw [cops_cast HOK.out]; exact HU.out.below hW) (place_at HOK.out) (lists_lex n _ _) (fun L hL => (lists_mem _ _ L hL).1) hl3 (by omega))
      have hpl : placeOf n tl < (gameN l n tl.length).P := (List.getElem?_eq_some_iff.1 (place_at hok)).1
      have hpl' : (placeOf n tl : Int) < ((gameN l n tl.length).P : Int) := by omega
      have hpl0 : (0 : Int) ≤ (placeOf n tl : Int) := by omega
      have hlen : (rowsN (listsN n tl.length 0)).length = (gameN l n tl.length).P := by simp [rowsN, hPl]
      have HLN := Lib.hid hlen
      clear hf hcp hok hPl hlen
      go_enter Try.func30, Try.ntmps30
      go_wp2_with fail
      refine HG.out.mono ?_
      rintro e w1 ⟨rfl, b1⟩
      have e1 := btrans b0 b1
      have g1 := g0.below b1 g0.lt
      have o1 := own_below o0 b1
      obtain ⟨p0, p1, -, -⟩ := g1.two
      have HC1 := Lib.hid (HCO.out w1 e1)
      clear HG b0 b1 g0 o0 HCO
      go_wp2_with fail
      refine HC1.out.mono ?_
      rintro e w2 ⟨rfl, b2⟩
      have e2 := btrans e1 b2
      have g2 := g1.below b2 g1.lt
      have o2 := own_below o1 b2
      clear p0 p1
      obtain ⟨p0, p1, -, -⟩ := g2.two
      have HM2 := Lib.hid (HM.out w2 e2)
      clear b2 g1 o1 e1 HC1 HM
      go_wp2_with fail
      refine HM2.out.mono ?_
      rintro e w3 ⟨fv, mv, bv, uf, um, ub, rfl, hs, b3⟩
      obtain ⟨Af, cf, rfl, -⟩ := hs.cfgs.1
      obtain ⟨Am, cm, rfl, -⟩ := hs.moves.1
      obtain ⟨Ab, cb, rfl, -⟩ := hs.balls.1
      have e3 := btrans e2 b3
      have o3 := own_below o2 b3
      have b4 : Below w3.heap.size w3 (w3.alloc (.cells #[.slice Af (rowsN (listsN n tl.length 0)).length cf, .slice Am (mvG l n tl.length).length cm, .slice Ab (ballG l n).length cb] 75)) := (Below.refl _ _).alloc (Nat.le_refl _) _
      have g4 := Blk.new w3 75 #[.slice Af (rowsN (listsN n tl.length 0)).length cf, .slice Am (mvG l n tl.length).length cm, .slice Ab (ballG l n).length cb]
      have HT4 := Lib.hid (HT.out _ _ _ uf um ub _ ((hs.below b4).below (Below.refl _ _).drew))
      have HCF := Lib.hid (hs.cfgs.below b4)
      have HE4 := Lib.hid (btrans e3 b4)
      have HG4 := Lib.hid g4
      have HO4 := Lib.hid (own_below o3 b4)
      obtain ⟨t0, t1, t2⟩ := blk3 g4
      rw [HLN.out] at HT4 HCF HG4 t0 HE4 HO4
      have HSZ : Hid (w.heap.size + 1 < w3.heap.size) := by
        have := (o3.lt (w.heap.size + 1) rfl).2
        exact this
      clear hs b3 b4 e3 e2 g2 o2 o3 p0 p1 g4 HM2 HT
      rw [HLN.out]
      generalize (mvG l n tl.length).length = x2 at *
      generalize (ballG l n).length = x3 at *
      generalize hWW : w3.alloc (.cells #[.slice Af (gameN l n tl.length).P cf, .slice Am x2 cm, .slice Ab x3 cb] 75) = wz at *
      subst hWW
      go_wp2_with fail
      refine wp_region_held_drew (S := (fun w' : World => w'.cell? ⟨w3.heap.size, 0, none⟩ = some (.slice Af (gameN l n tl.length).P cf) ∧ w'.cell? ⟨w3.heap.size, 1, none⟩ = some (.slice Am x2 cm) ∧ w'.cell? ⟨w3.heap.size, 2, none⟩ = some (.slice Ab x3 cb))) (by kernel_rfl) (by (try dsimp only); simp [*]) (fun hHeld => ?_)
      change wpAnyH _ _ _ _ _ _ #[false, false, false, false, false, false, false, false, false] _ _
      refine wpAnyH_take (i := 0) (oi := ⟨some 27, _, _, _, _, _⟩) (v := ?_) rfl (by kernel_rfl) (by kernel_rfl) (by kernel_rfl) (fun _ _ _ h => h) (Or.inl ⟨by rfl, ?_⟩) (by assumption) ?_
      rotate_left
      · (intro w hSw; (try dsimp only at hSw); go_simp; (try (with_reducible rfl)))
      try simp only [Act.put, List.setIfInBounds_toArray, List.set_cons_zero, List.set_cons_succ]
      refine wpAnyH_take (i := 2) (oi := ⟨some 29, _, _, _, _, _⟩) (v := ?_) rfl (by kernel_rfl) (by kernel_rfl) (by kernel_rfl) (fun _ _ _ h => h) (Or.inl ⟨by rfl, ?_⟩) (by assumption) ?_
      rotate_left
      · (intro w hSw; (try dsimp only at hSw); go_simp; (try (with_reducible rfl)))
      try simp only [Act.put, List.setIfInBounds_toArray, List.set_cons_zero, List.set_cons_succ]
      refine wpAnyH_take (i := 3) (oi := ⟨some 30, _, _, _, _, _⟩) (v := ?_) rfl (by kernel_rfl) (by kernel_rfl) (by kernel_rfl) (fun _ _ _ h => h) (Or.inl ⟨by rfl, ?_⟩) (by assumption) ?_
      rotate_left
      · (intro w hSw; (try dsimp only at hSw); go_simp; (try (with_reducible rfl)))
      try simp only [Act.put, List.setIfInBounds_toArray, List.set_cons_zero, List.set_cons_succ]
      refine wpAnyH_take (i := 4) (oi := ⟨some 31, _, _, _, _, _⟩) (v := ?_) rfl (by kernel_rfl) (by kernel_rfl) (by kernel_rfl) (fun _ _ _ h => h) (Or.inl ⟨by rfl, ?_⟩) (by assumption) ?_
      rotate_left
      · (intro w hSw; (try dsimp only at hSw); go_simp; (try (with_reducible rfl)))
      try simp only [Act.put, List.setIfInBounds_toArray, List.set_cons_zero, List.set_cons_succ]
      refine wpAnyH_ready (rs := [1]) (by kernel_rfl) (by simp) ?_
      refine AllReadyH.cons (o := ⟨some 28, _, _, _, _, _⟩) rfl (fun K hK => ?_) AllReadyH.nil
      go_simp
      refine HT4.out.mono ?_; rintro e w5 ⟨A5, c5, u5, rfl, o5, b5⟩; have hz := (Below.refl (w3.alloc (.cells #[.slice Af (gameN l n tl.length).P cf, .slice Am x2 cm, .slice Ab x3 cb] 75)).heap.size _).drew.trans b5; obtain ⟨k0, k1, k2⟩ := blk3 (HG4.out.below hz HG4.out.lt); have HR5 := Lib.hid (gridl.readsG_of_own o5); have HOG5 := Lib.hid o5; have HE5 := Lib.hid (btrans HE4.out hz); have HG5 := Lib.hid (HG4.out.below hz HG4.out.lt); have HO5 := Lib.hid (own_below HO4.out hz); have HA5 := Lib.hid (HAT.out w5 _ uf (HCF.out.below hz) HE5.out)
      go_wp2_with fail
      refine hK.out _ _ (by (try dsimp only); simp [*]) (fun hHeld => ?_)
      clear hK K
      try simp only [List.setIfInBounds_toArray, List.set_cons_zero, List.set_cons_succ]
      refine wpAnyH_ready (rs := [5]) (by kernel_rfl) (by simp) ?_
      refine AllReadyH.cons (o := ⟨some 32, _, _, _, _, _⟩) rfl (fun K hK => ?_) AllReadyH.nil
      go_simp
      refine HA5.out.mono ?_; rintro e w6 ⟨rfl, b6⟩; obtain ⟨m0, m1, m2⟩ := blk3 (HG5.out.below b6 HG5.out.lt); obtain ⟨ur, gr, orr, hus, hA, f0, hru⟩ := (HR5.out.below b6).row (gridG_at (T := tms (gameN l n tl.length)) (n := n) hpl); have HUO := Lib.hid ((HOG5.out.below b6).2.1 _ ur _ hus (gridG_at (T := tms (gameN l n tl.length)) (n := n) hpl)); subst hA; obtain ⟨Ar, cr, rfl, hcr⟩ := hru.form; clear hus; have hrl := rowG_len n (tms (gameN l n tl.length) (placeOf n tl)); rw [hrl] at f0; clear hrl
      go_wp2_with fail
      refine hK.out _ _ (by (try dsimp only); simp [*]) (fun hHeld => ?_)
      clear hK K
      try simp only [List.setIfInBounds_toArray, List.set_cons_zero, List.set_cons_succ]
      refine wpAnyH_take (i := 6) (oi := ⟨some 33, _, _, _, _, _⟩) (v := ?_) rfl (by kernel_rfl) (by kernel_rfl) (by kernel_rfl) (fun _ _ _ h => h) (Or.inl ⟨by rfl, ?_⟩) (by assumption) ?_
      rotate_left
      · (intro w hSw; (try dsimp only at hSw); go_simp; (try (with_reducible rfl)))
      try simp only [Act.put, List.setIfInBounds_toArray, List.set_cons_zero, List.set_cons_succ]
      refine wpAnyH_ready (rs := [7]) (by kernel_rfl) (by simp) ?_
      refine AllReadyH.cons rfl (fun K hK => ?_) AllReadyH.nil
      go_simp
      refine hK.out _ _ (hHeld) (fun hHeld => ?_)
      clear hK K
      try simp only [List.setIfInBounds_toArray, List.set_cons_zero, List.set_cons_succ]
      refine wpAnyH_take (i := 8) (oi := ⟨some 8, _, _, _, _, _⟩) (v := ?_) rfl (by kernel_rfl) (by kernel_rfl) (by kernel_rfl) (fun _ _ _ h => h) (Or.inl ⟨by rfl, ?_⟩) (by assumption) ?_
      rotate_left
      · (intro w hSw; (try dsimp only at hSw); go_simp; (try (with_reducible rfl)))
      try simp only [Act.put, List.setIfInBounds_toArray, List.set_cons_zero, List.set_cons_succ]
      refine wpAnyH_done (by kernel_rfl) ?_ _
      have HE6 := Lib.hid (btrans HE5.out b6)
      have HO6 := Lib.hid (own_below HO5.out b6)
      have HAP : Hid (∀ q, (Value.slice (some ⟨w.heap.size + 1, 0, none⟩) 0 0).ownBlock = some q → (Value.slice Ar (rowG n (tms (gameN l n tl.length) (placeOf n tl))).length cr).ownBlock ≠ some q) := fun q hq hq2 => by
        have h1 := (HUO.out.lt q hq2).1
        have h2 : w.heap.size + 1 = q := by simpa [Value.ownBlock] using hq
        have h3 := HSZ.out
        simp at h1; omega
      clear hru hcr b6 o5 b5 hz k0 k1 k2 m0 m1 m2 f0 t0 t1 t2 hHeld
      have HRL := Lib.hid (rowG_len n (tms (gameN l n tl.length) (placeOf n tl)))
      go_wp2_with fail
      go_loopg [6, 9] n (fun g ov iv wr => ∃ (k : Nat) (ow : Value), ow = ov ∧ k + g = n ∧ iv = .int .i64 (k : Int) ∧ wr.ownsRow w.heap.size 3 1 ow (nw (fun y => decide (0 ≤ tms (gameN l n tl.length) (placeOf n tl) y) && decide (tms (gameN l n tl.length) (placeOf n tl) y ≤ 2)) k).length (cellsI (nw (fun y => decide (0 ≤ tms (gameN l n tl.length) (placeOf n tl) y) && decide (tms (gameN l n tl.length) (placeOf n tl) y ≤ 2)) k)) ∧ wr.ownsRow w.heap.size 3 1 (.slice Ar (rowG n (tms (gameN l n tl.length) (placeOf n tl))).length cr) (rowG n (tms (gameN l n tl.length) (placeOf n tl))).length (cellsI (rowG n (tms (gameN l n tl.length) (placeOf n tl)))) ∧ Hid (∀ q, ow.ownBlock = some q → (Value.slice Ar (rowG n (tms (gameN l n tl.length) (placeOf n tl))).length cr).ownBlock ≠ some q) ∧ Below w.heap.size w wr)
      case atStart => exact ⟨0, _, rfl, by omega, rfl, own_base HO6.out (by omega), own_base HUO.out (by have := HSZ.out; simp; omega), HAP, HE6.out⟩
      case round =>
        clear HE6 HO6 HE5 HO5 HR5 HG5 HA5 HE4 HO4 HG4 HCF HT4 HAP HUO HOG5
        obtain ⟨k, ow, rfl, hkg, rfl, hrow, hru, hap, hB⟩ := hrel
        obtain ⟨A8, c8, rfl⟩ := own_form hrow
        have hpl := nw_len (fun y => decide (0 ≤ tms (gameN l n tl.length) (placeOf n tl) y) && decide (tms (gameN l n tl.length) (placeOf n tl) y ≤ 2)) k
        have hsz := hB.size
        obtain ⟨_, _, hf9, hcc⟩ := (show Ints wr (.slice Ar (rowG n (tms (gameN l n tl.length) (placeOf n tl))).length cr) (rowG n (tms (gameN l n tl.length) (placeOf n tl))) from Reads.of_own hru).form
        cases hf9
        cases gk with
        | zero =>
          obtain rfl : k = n := by omega
          have HR : Hid (wr.ownsRow w.heap.size 3 1 (.slice A8 (trapR k (tms (gameN l k tl.length) (placeOf k tl))).length c8) (trapR k (tms (gameN l k tl.length) (placeOf k tl))).length (cellsI (trapR k (tms (gameN l k tl.length) (placeOf k tl))))) := hrow
          have hnn : ¬ (k : Int) < ((rowG k (tms (gameN l k tl.length) (placeOf k tl))).length : Int) := by have := HRL.out; omega
          have HB := Lib.hid hB
          clear hrow hru hB hap hcc
          go_wp2_with fail
          go_ret2
          exact RetI.yes HOK.out HR.out HB.out
        | succ g2 =>
          have hlt : k < n := by omega
          have hlt' : (k : Int) < ((rowG n (tms (gameN l n tl.length) (placeOf n tl))).length : Int) := by have := HRL.out; omega
          obtain ⟨gg, oo, rfl, q0⟩ := hcc k _ (rowG_at hlt)
          have hin : inB (tms (gameN l n tl.length) (placeOf n tl) k) 0 2 = (fun y => decide (0 ≤ tms (gameN l n tl.length) (placeOf n tl) y) && decide (tms (gameN l n tl.length) (placeOf n tl) y ≤ 2)) k := by simp [inB]
          have HIN := Lib.hid (fun (W : World) => l1In_any (tms (gameN l n tl.length) (placeOf n tl) k) 0 2 W)
          have HRU := Lib.hid hru
          have HAP := Lib.hid hap.out
          have HB := Lib.hid hB
          rw [hin] at HIN
          clear hin hcc hru hap hB
          cases hp : (fun y => decide (0 ≤ tms (gameN l n tl.length) (placeOf n tl) y) && decide (tms (gameN l n tl.length) (placeOf n tl) y ≤ 2)) k with
          | true =>
            have HN := Lib.hid (nw_yes (p := (fun y => decide (0 ≤ tms (gameN l n tl.length) (placeOf n tl) y) && decide (tms (gameN l n tl.length) (placeOf n tl) y ≤ 2))) (k := k) hp)
            rw [hp] at HIN
            clear hp
            generalize (rowG n (tms (gameN l n tl.length) (placeOf n tl))).length = rl at *
            generalize hm : nw (fun y => decide (0 ≤ tms (gameN l n tl.length) (placeOf n tl) y) && decide (tms (gameN l n tl.length) (placeOf n tl) y ≤ 2)) k = m at *
            clear hm
            go_wp2_with fail
            refine (HIN.out _).mono ?_
            rintro e w' ⟨rfl, rfl⟩
            go_wp2_with (at_builtin; refine wpList_append_own_at _ rfl _ _ 25 rfl (w.heap.size) 3 i0 (.int .i64 0) 1 8 Try.underlying25 hi hz0 hz1 hz2 rfl (by decide) _ _ _ rfl (hrow.alloc _) ⟨wr.heap.size, 0, none⟩ 1 1 [.int .i64 ((k : Int))] rfl rfl (cell_one_new _ _ _) (fun x hx => by simp at hx; subst hx; rfl) (by unfold maxLen; omega) (by omega) (by simp; omega) ?_; intro v2 w2 hown2 hgrow2 _ hl2)
            obtain ⟨hown3, hB2⟩ := push1 hrow hown2 hgrow2 hsz
            have hru2 := (HRU.out.alloc (.cells #[.int .i64 (k : Int)] 3)).kept hgrow2 (bags.apart_or HAP.out)
            have HAP2 := Lib.hid (bags.apart_grow HAP.out hl2 (fun q hq => by have := (HRU.out.lt q hq).2; simp; omega))
            clear hgrow2 hrow hown2
            go_roundg g2
            case measure => omega
            case rel => exact ⟨k + 1, _, rfl, by omega, by go_num, by rw [HN.out]; exact hown3, hru2, HAP2, HB.out.trans hB2⟩
          | false =>
            have HN := Lib.hid (nw_no (p := (fun y => decide (0 ≤ tms (gameN l n tl.length) (placeOf n tl) y) && decide (tms (gameN l n tl.length) (placeOf n tl) y ≤ 2))) (k := k) hp)
            rw [hp] at HIN
            clear hp
            go_wp2_with fail
            refine (HIN.out _).mono ?_
            rintro e w' ⟨rfl, rfl⟩
            go_wp2_with fail
            go_roundg g2
            case measure => omega
            case rel => exact ⟨k + 1, _, rfl, by omega, by go_num, by rw [HN.out]; exact hrow, HRU.out, HAP, HB.out⟩
    · rw [okG_no hcp] at HCO
      have HNO : Hid (¬ CopsOk (n : Int) l tl) := fun hh => hcp ⟨hh.2.2.1, hh.2.2.2⟩
      clear hf hcp
      go_enter Try.func30, Try.ntmps30
      go_wp2_with fail
      refine HG.out.mono ?_
      rintro e w1 ⟨rfl, b1⟩
      have e1 := btrans b0 b1
      have g1 := g0.below b1 g0.lt
      have o1 := own_below o0 b1
      obtain ⟨p0, p1, -, -⟩ := g1.two
      have HCO1 := Lib.hid (HCO.out w1 e1)
      clear HG b0 b1 g0 o0 HCO
      go_wp2_with fail
      refine HCO1.out.mono ?_
      rintro e w2 ⟨rfl, b2⟩
      have e2 := btrans e1 b2
      have o2 := own_below o1 b2
      go_wp2_with fail
      go_ret2
      exact RetI.no HNO.out (own_base o2 (by omega)) e2
  · rw [okG_no hf] at HG
    have HNO : Hid (¬ CopsOk s l tl) := fun hh => hf ⟨hh.1, by
      obtain ⟨x, hx⟩ : ∃ x, tl[0]? = some x := ⟨_, List.getElem?_eq_getElem (by have := hh.2.1.1; omega)⟩
      have := hh.2.2.1 x (List.mem_of_getElem? hx)
      omega, by have := hh.2.1.1; omega, by have := hh.2.1.2; omega⟩
    clear hf
    go_enter Try.func30, Try.ntmps30
    go_wp2_with fail
    refine HG.out.mono ?_
    rintro e w1 ⟨rfl, b1⟩
    have e1 := btrans b0 b1
    have o1 := own_below o0 b1
    clear HG b0 b1 g0 o0
    go_wp2_with fail
    go_ret2
    exact RetI.no HNO.out (own_base o1 (by omega)) e1
end Go.Proofs.Ytpeobnmfndelhaa.lists

/- Arguments of the laws, opened: a Graph as it came in, a slice of integers as it came in. -/
namespace Go.Proofs.Ytpeobnmfndelhaa.opens
open Go.RowKit Go.Joins Go.ChangeShapes Go.WideShapes Go.Deep P2 words

theorem addr_add (g o j : Nat) : (⟨g, o, none⟩ : Addr).add j = ⟨g, o + j, none⟩ := by unfold Addr.add; split <;> simp_all
theorem add_of_add (a : Addr) (i j : Nat) : (a.add i).add j = a.add (i + j) := by
  unfold Addr.add
  by_cases hi : i = 0 <;> by_cases hj : j = 0 <;> simp [hi, hj, Nat.add_assoc]

/-- what is told of a Graph that came in -/
def IsGr (w : World) (s : Int) (v : Value) (l : List Ed) : Prop :=
  Edges w v l ∧ l.length ≤ maxLen ∧ -9223372036854775808 ≤ s ∧ s ≤ 9223372036854775807

theorem bounds64 {n : Int} (h : (Lit.int .i64 n).wf = true) : -9223372036854775808 ≤ n ∧ n ≤ 9223372036854775807 := by
  simp [Lit.wf, IntKind.min, IntKind.max, IntKind.signed, IntKind.bits] at h
  omega

/-- what is told of a slice of integers that came in -/
def IsIn (w : World) (v : Value) (l : List Int) : Prop := Ints w v l ∧ l.length ≤ maxLen ∧ ∀ x ∈ l, -9223372036854775808 ≤ x ∧ x ≤ 9223372036854775807

section
variable {H : Type} {enc : TypeId × Value → H} {w : World} {spare : Nat → Bool} {held : Bool}
theorem open_edges {fuel : Nat} {v : Value} {x : DataW H × List MemPlace} (h : DataW.trod enc Try.prog w 0 spare held fuel 22 [v] = some x) :
    ∃ l : List Ed, Edges w v l ∧ l.length ≤ maxLen := by
  rcases open_slice Try.underlying22 h with ⟨hv, _⟩ | ⟨a, len, cap, m, n, D, Pl, hv, _, hl, hm, hmm, _, hi⟩
  · obtain rfl : v = .slice none 0 0 := by simpa using hv
    exact ⟨[], Reads.nil _ _, Nat.zero_le _⟩
  · obtain rfl : v = .slice (some a) len cap := by simpa using hv
    have hlm : len ≤ m := by rw [hmm]; split <;> omega
    have hC : Try.prog.cellsOf 115 = 2 := by kernel_rfl
    have hC1 : Try.prog.cellsOf 3 = 1 := by kernel_rfl
    rw [hC] at hi
    have key : ∀ i, i < len → ∃ e : Ed, w.cell? (a.add (i * 2)) = some (.int .i64 e.1) ∧ w.cell? (a.add (i * 2 + 1)) = some (.int .i64 e.2) := fun i hil => by
      obtain ⟨cs', hc, ht⟩ := hi i (by omega)
      obtain ⟨xs, m', _, _, _, hxl, he⟩ := DataW.trod_array Try.underlying115 ht
      obtain ⟨_, hcl, hat⟩ := World.cells?_some hc
      rw [hC1] at he
      match cs', hcl with
      | [c0, c1], _ =>
        match xs, hxl with
        | [y0, y1], _ =>
          have e0 : DataW.trod enc Try.prog w 0 spare held m' 3 [c0] = some y0 := he 0 (by decide)
          have e1 : DataW.trod enc Try.prog w 0 spare held m' 3 [c1] = some y1 := he 1 (by decide)
          obtain ⟨n0, h0, _, _⟩ := DataW.trod_int Try.underlying3 e0
          obtain ⟨n1, h1, _, _⟩ := DataW.trod_int Try.underlying3 e1
          obtain rfl : c0 = .int .i64 n0 := by simpa using h0
          obtain rfl : c1 = .int .i64 n1 := by simpa using h1
          have a0 := hat 0 (by decide)
          have a1 := hat 1 (by decide)
          rw [add_of_add] at a0 a1
          exact ⟨(n0, n1), by simpa using a0, by simpa using a1⟩
    obtain ⟨f, hf⟩ := choose_lt (α := Ed) key
    refine ⟨(List.range len).map f, ⟨some a, cap, by simp, fun hn => ?_⟩, by simp; omega⟩
    simp only [List.length_map, List.length_range] at hn ⊢
    obtain ⟨b, off, spot⟩ := a
    have hc0 := (hf 0 hn).1
    have hspot : spot = none := by simpa [Addr.add] using World.cell?_spot hc0
    subst hspot
    refine ⟨b, off, rfl, hl, fun j u hu => ?_⟩
    have hjl : j < len * 2 := by
      have := (List.getElem?_eq_some_iff.1 hu).1
      rw [cellsE_len] at this; simpa using this
    obtain ⟨k, hk⟩ : ∃ k, k = j / 2 := ⟨_, rfl⟩
    have hkl : k < len := by omega
    have hkf : ((List.range len).map f)[k]? = some (f k) := by simp [hkl]
    have hck := cellsE_at hkf
    have hcl := hf k hkl
    rw [addr_add, addr_add] at hcl
    rcases Nat.mod_two_eq_zero_or_one j with h0 | h0
    · obtain rfl : j = k * 2 := by omega
      rw [hck.1] at hu
      rw [hcl.1, ← hu]
    · obtain rfl : j = k * 2 + 1 := by omega
      rw [hck.2] at hu
      rw [hcl.2, ← hu]

set_option maxRecDepth 100000 in
theorem open_graph {r : Reach} {b0 : Nat} {v : Value} {d : DataW H} {p : List MemPlace} (hv : Value.okWide Try.prog w r b0 24 v)
    (h : DataW.Trod enc Try.prog w 0 spare held 24 v d p) : ∃ s u l, v = .agg #[.int .i64 s, u] ∧ IsGr w s u l := by
  obtain ⟨c0, c1, y0, y1, m, rfl, _, _, h0, h1⟩ := open_agg2 Try.underlying24 (by kernel_rfl) (by kernel_rfl) hv h
  obtain ⟨n0, k0, _, w0⟩ := DataW.trod_int Try.underlying3 h0
  obtain rfl : c0 = .int .i64 n0 := by simpa using k0
  obtain ⟨l, he, hl⟩ := open_edges h1
  exact ⟨n0, c1, l, rfl, he, hl, bounds64 w0⟩

set_option maxRecDepth 100000 in
theorem open_intsl {r : Reach} {b0 : Nat} {v : Value} {d : DataW H} {p : List MemPlace} (hv : Value.okWide Try.prog w r b0 25 v)
    (h : DataW.Trod enc Try.prog w 0 spare held 25 v d p) : ∃ u l, v = u ∧ IsIn w u l := by
  obtain ⟨A, len, cap, rfl⟩ := okWide_slice Try.underlying25 hv
  obtain ⟨fuel, hf⟩ := h
  simp only [Value.cells] at hf
  rcases open_slice Try.underlying25 hf with ⟨hv, _⟩ | ⟨a, len', cap', m, n, D, Pl, hv, _, hl, hm, hmm, _, hi⟩
  · have e : Value.slice A len cap = .slice none 0 0 := by simpa using hv
    rw [e]
    exact ⟨_, [], rfl, Reads.nil _ _, Nat.zero_le _, fun x hx => by cases hx⟩
  · have e : Value.slice A len cap = .slice (some a) len' cap' := by simpa using hv
    rw [e]
    have hlm : len' ≤ m := by rw [hmm]; split <;> omega
    have hC1 : Try.prog.cellsOf 3 = 1 := by kernel_rfl
    rw [hC1] at hi
    have key : ∀ i, i < len' → ∃ x : Int, w.cell? (a.add i) = some (.int .i64 x) ∧ (Lit.int .i64 x).wf = true := fun i hil => by
      obtain ⟨cs', hc, ht⟩ := hi i (by omega)
      obtain ⟨_, hcl, hat⟩ := World.cells?_some hc
      match cs', hcl with
      | [c0], _ =>
        obtain ⟨n0, h0, _, hw⟩ := DataW.trod_int Try.underlying3 ht
        obtain rfl : c0 = .int .i64 n0 := by simpa using h0
        have a0 := hat 0 (by decide)
        rw [add_of_add, Nat.mul_one] at a0
        exact ⟨n0, by simpa using a0, hw⟩
    obtain ⟨f, hf⟩ := choose_lt (α := Int) key
    refine ⟨_, (List.range len').map f, rfl, ⟨some a, cap', by simp, fun hn => ?_⟩, by simp; omega, fun x hx => ?_⟩
    · simp only [List.length_map, List.length_range] at hn ⊢
      obtain ⟨b, off, spot⟩ := a
      have hc0 := (hf 0 hn).1
      have hspot : spot = none := by simpa [Addr.add] using World.cell?_spot hc0
      subst hspot
      refine ⟨b, off, rfl, hl, fun j u hu => ?_⟩
      have hjl : j < len' := by
        have := (List.getElem?_eq_some_iff.1 hu).1
        rw [cellsI_len] at this; simpa using this
      have hcl := (hf j hjl).1
      rw [addr_add] at hcl
      have hkf : ((List.range len').map f)[j]? = some (f j) := by simp [hjl]
      rw [cellsI_at hkf] at hu
      rw [hcl, ← hu]
    · simp only [List.mem_map, List.mem_range] at hx
      obtain ⟨j, hj, rfl⟩ := hx
      exact bounds64 (hf j hj).2
end
end Go.Proofs.Ytpeobnmfndelhaa.opens
