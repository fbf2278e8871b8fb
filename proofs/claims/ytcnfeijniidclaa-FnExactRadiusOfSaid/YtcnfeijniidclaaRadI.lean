/- The contract of the program's RadiusOf. -/
import Derived.Handy
import Derived.Test.YtcnfeijniidclaaRadM
import Derived.Test.YtcnfeijniidclaaRenI
import Derived.Test.YtcnfeijniidclaaDistO
import Derived.Deep.DeepCutAuto
namespace Go.Proofs.Ytcnfeijniidclaa.rad
open Go.RowKit P2 words edges ints owns good near adjs fns rets sets covs grid dists distf disto rens func
set_option linter.unusedVariables false

theorem idx_mem (xs : List Int) (x : Int) : decide (0 ≤ idxI xs x) = decide (x ∈ xs) := by
  unfold idxI
  rw [idxF_any]
  by_cases h : x ∈ xs
  · rw [decide_eq_true h, List.any_eq_true]; exact ⟨x, h, by simp⟩
  · rw [decide_eq_false h, Bool.eq_false_iff]
    intro hh
    obtain ⟨y, hy, e⟩ := List.any_eq_true.1 hh
    have : y = x := by simpa using e
    subst this
    exact h hy
theorem contains_any (u : Value) (xs : List Int) (x : Int) (w : World) (hu : Ints w u xs) (hxl : xs.length ≤ 1048576) :
    Calls Try.prog 60 #[u, .int .i64 x] w fun e w' => e = .returned (.bool (decide (x ∈ xs))) ∧ w = w' := by
  have HI := Lib.hid (index_any u xs x w hu hxl)
  have HM := Lib.hid (idx_mem xs x)
  clear hu
  generalize idxI xs x = k at *
  go_enter Try.func60, Try.ntmps60
  go_wp2_with fail
  refine HI.out.mono ?_
  rintro e w' ⟨rfl, rfl⟩
  go_wp2_with fail
  go_ret
  exact ⟨ret_bool HM.out, rfl⟩
/-- the greatest so far -/
def MaxTo (xs : List Int) (k : Nat) (M : Int) : Prop := (∀ j y, j < k → xs[j]? = some y → y ≤ M) ∧ M ∈ xs
theorem MaxTo.succ {xs : List Int} {k : Nat} {M y : Int} (h : MaxTo xs k M) (hy : xs[k]? = some y) : MaxTo xs (k + 1) (if M < y then y else M) := by
  rw [show (if M < y then y else M) = max M y from by split <;> omega]
  refine ⟨fun j z hj hz => ?_, ?_⟩
  · by_cases e : j = k
    · subst e; rw [hy] at hz; cases hz; omega
    · have := h.1 j z (by omega) hz; omega
  · by_cases e : M ≤ y
    · rw [Int.max_eq_right e]; exact List.mem_of_getElem? hy
    · rw [Int.max_eq_left (by omega)]; exact h.2
theorem MaxTo.all {xs : List Int} {M : Int} (h : MaxTo xs xs.length M) : MaxIs xs M :=
  ⟨fun y hy => by
    obtain ⟨j, hj⟩ := List.mem_iff_getElem?.1 hy
    exact h.1 j y (List.getElem?_eq_some_iff.1 hj).1 hj, h.2⟩
set_option maxHeartbeats 1000000 in
theorem max_any (u : Value) (xs : List Int) (w : World) (hu : Ints w u xs) (hxl : xs.length ≤ 1048576) (h0 : 0 < xs.length) :
    Calls Try.prog 61 #[u] w fun e w' => ∃ M, e = .returned (.int .i64 M) ∧ MaxIs xs M ∧ w = w' := by
  obtain ⟨A2, c2, rfl, hc⟩ := hu.form
  have HC := Lib.hid hc
  obtain ⟨y0, hy0⟩ : ∃ y, xs[0]? = some y := ⟨_, List.getElem?_eq_getElem h0⟩
  obtain ⟨g0, o0, rfl, q0⟩ := hc 0 y0 hy0
  have HM0 : Hid (MaxTo xs 1 y0) := ⟨fun j y hj hy => by
    have : j = 0 := by omega
    subst this
    rw [hy0] at hy; cases hy; exact Int.le_refl _, List.mem_of_getElem? hy0⟩
  have h0' : ¬ ((xs.length : Int) < 1) := by omega
  have h1' : (0 : Int) < (xs.length : Int) := by omega
  clear hu hc hy0
  rw [Nat.add_zero] at q0
  go_enter Try.func61, Try.ntmps61
  go_wp2_with fail
  go_loop [3, 4] (fun m i => ∃ (k : Nat) (M : Int), k ≤ xs.length ∧ i = .int .i64 (k : Int) ∧ m = .int .i64 M ∧ Hid (MaxTo xs k M)) (fun _ i => xs.length - (intOf i).toNat)
  case atStart => exact ⟨1, y0, by omega, rfl, rfl, HM0⟩
  case round =>
    clear HM0
    obtain ⟨k, M, hk, rfl, rfl, hm⟩ := hrel
    by_cases hlt : k < xs.length
    · obtain ⟨y, hy⟩ : ∃ y, xs[k]? = some y := ⟨_, List.getElem?_eq_getElem hlt⟩
      obtain ⟨g, o, hgo, c0⟩ := HC.out k y hy
      obtain ⟨rfl, rfl⟩ : g0 = g ∧ o0 = o := by simpa using hgo
      have hlt' : (k : Int) < (xs.length : Int) := by omega
      have HM1 := Lib.hid (hm.out.succ hy)
      clear hy hm
      go_wp2_with fail
      go_round
      case rel => exact ⟨k + 1, _, by omega, by go_num, rfl, HM1⟩
      case measure => simp [intOf]; omega
    · obtain rfl : k = xs.length := by omega
      have HM1 : Hid (MaxIs xs M) := hm.out.all
      go_wp2_with fail
      go_ret
      exact ⟨M, rfl, HM1.out, rfl⟩
theorem grid_cell {w : World} {B i n c : Nat} {A : Option Addr} {us : List Value} {u : Value} (h : w.ownsRow B 26 1 (.slice A n c) n us) (hu : us[i]? = some u) :
    ∃ g, A = some ⟨g, 0, none⟩ ∧ w.cell? ⟨g, i, none⟩ = some u ∧ B ≤ g ∧ g < w.heap.size := by
  have hi := (List.getElem?_eq_some_iff.1 hu).1
  have hl := h.1
  rcases h.2 with ⟨hf, _⟩ | ⟨g, cap, cur, hf, _⟩
  · have := congrArg (fun v => match v with | .slice _ n _ => n | _ => 0) hf
    simp at this
    omega
  · obtain ⟨rfl, rfl⟩ : A = some ⟨g, 0, none⟩ ∧ c = cap := by simpa using hf
    have := h.cellAt i (by omega)
    rw [hu] at this
    exact ⟨g, rfl, this, (h.lt g rfl).1, (h.lt g rfl).2⟩
/-- the row of a node -/
theorem row_of {w : World} {B n x : Nat} {A : Option Addr} {c : Nat} {us : List Value} {l : List Ed} (h : OwnG w B (.slice A (distG n l).length c) us (distG n l)) (hx : x < n) :
    ∃ g A5 c5, A = some ⟨g, 0, none⟩ ∧ w.cell? ⟨g, x, none⟩ = some (.slice A5 n c5) ∧ Ints w (.slice A5 n c5) (dist n (J1 l) x) := by
  obtain ⟨u5, hu5, o5⟩ := h.row (distTo_at n l hx)
  obtain ⟨A5, c5, rfl⟩ := own_form o5
  obtain ⟨g, rfl, f5, _⟩ := grid_cell h.1 hu5
  have hd := dist_len (J1 l) hx
  have hi : Ints w (.slice A5 (dist n (J1 l) x).length c5) (dist n (J1 l) x) := Reads.of_own o5
  rw [hd] at f5 hi
  exact ⟨g, A5, c5, rfl, f5, hi⟩
def RadOk (s : Int) (l : List Ed) : Prop := P2.Good s l ∧ 0 < s ∧ Whole s.toNat (J1 l)
set_option maxHeartbeats 4000000 in
set_option maxRecDepth 100000 in
theorem implRad_any (s : Int) (v : Value) (l : List Ed) (w : World) (h : Edges w v l) (hl : l.length ≤ 1048576) :
    Calls Try.prog 28 #[.agg #[.int .i64 s, v]] w fun e w' => e = .returned (.tuple #[.int .i64 (szG (RadOk s l) (radV s.toNat (J1 l) : Int)), .bool (okG (RadOk s l))]) ∧ Below w.heap.size w w' := by
  obtain ⟨A, c, rfl, -⟩ := h.form
  have b0 : Below w.heap.size w (w.alloc (.cells #[.int .i64 s, .slice A l.length c] 29)) := (Below.refl _ _).alloc (Nat.le_refl _) _
  have g0 := Blk.new w 29 #[.int .i64 s, .slice A l.length c]
  have HD := Lib.hid (implDistO_any s _ l _ (h.below b0) hl)
  clear h
  by_cases hgd : P2.Good s l
  · have h0 := hgd.1
    have h8 := hgd.2.1
    obtain ⟨n, rfl⟩ : ∃ n : Nat, s = (n : Int) := ⟨s.toNat, by omega⟩
    rw [Int.toNat_natCast] at HD ⊢
    unfold RetGr at HD
    rw [gdG_yes hgd, okG_yes hgd] at HD
    by_cases hn0 : n = 0
    · subst hn0
      have hno : ¬ RadOk ((0 : Nat) : Int) l := fun hh => by have := hh.2.1; omega
      rw [okG_no hno, szG_no hno]
      clear hgd hno
      go_enter Try.func28, Try.ntmps28
      go_wp2_with fail
      refine HD.out.mono ?_
      rintro e w1 ⟨A1, c1, us, rfl, o1, b1⟩
      have e1 := btrans b0 b1
      have g1 := g0.below b1 g0.lt
      obtain ⟨p0, p1, -, -⟩ := g1.two
      clear HD b0 b1 g0 g1
      go_wp2_with fail
      go_ret2
      exact ⟨rfl, e1⟩
    · have hn : 0 < n := by omega
      have HLEN := Lib.hid (distG_len n l)
      have HAT := Lib.hid (fun k (hk : k < n) => distTo_at n l hk)
      have hnz : ((n : Int) == 0) = false := by simp; omega
      by_cases hwh : Whole n (J1 l)
      · have hok : RadOk (n : Int) l := ⟨hgd, by omega, by rw [Int.toNat_natCast]; exact hwh⟩
        rw [okG_yes hok, szG_yes hok]
        have HPOS := Lib.hid (fun (x y : Nat) (hx : x < n) (hy : y < n) => whole_dist (J := J1 l) (fun a b => adj_comm l a b) hn hwh hx hy)
        have HZ : Hid (RadTo n (J1 l) 0 (n : Int)) := RadTo.zero n _
        clear hgd hok hwh
        go_enter Try.func28, Try.ntmps28
        go_wp2_with fail
        refine HD.out.mono ?_
        rintro e w1 ⟨A1, c1, us, rfl, o1, b1⟩
        have e1 := btrans b0 b1
        have g1 := g0.below b1 g0.lt
        obtain ⟨p0, p1, -, -⟩ := g1.two
        have HO := Lib.hid o1
        have HE := Lib.hid e1
        clear HD b0 b1 g0 g1 o1 e1
        go_wp2_with fail
        go_loopg [6, 25] n (fun g rv iv wr => ∃ (k : Nat) (rad : Int), k + g = n ∧ iv = .int .i64 (k : Int) ∧ rv = .int .i64 rad ∧ wr = w1 ∧ Hid (RadTo n (J1 l) k rad))
        case atStart => exact ⟨0, (n : Int), by omega, rfl, rfl, rfl, HZ⟩
        case round =>
          clear HZ p0 p1
          obtain ⟨k, rad, hkg, rfl, rfl, rfl, hrt⟩ := hrel
          have hlen := HLEN.out
          cases gk with
          | zero =>
            obtain rfl : k = n := by omega
            have HV : Hid (rad = (radV k (J1 l) : Int)) := hrt.out.all hn
            have hl9 : ¬ (k : Int) < ((distG k l).length : Int) := by omega
            have hl8 : decide ((k : Int) < ((distG k l).length : Int)) = false := decide_eq_false hl9
            have hv := HV.out
            subst hv
            clear hlen HV hrt
            go_wp2_with fail
            go_ret2
            exact ⟨rfl, HE.out⟩
          | succ g2 =>
            have hk : k < n := by omega
            have hkl : (k : Int) < ((distG n l).length : Int) := by omega
            have hkl2 : decide ((k : Int) < ((distG n l).length : Int)) = true := decide_eq_true hkl
            obtain ⟨gr, A5, c5, rfl, f5, hI⟩ := row_of HO.out hk
            have hdl := dist_len (J1 l) hk
            have hM : decide ((-1 : Int) ∈ dist n (J1 l) k) = false := decide_eq_false (fun hh => by
              obtain ⟨y, hy, e⟩ := dist_val hk hh
              have := HPOS.out k y hk hy
              omega)
            have HC := Lib.hid (contains_any (.slice A5 n c5) (dist n (J1 l) k) (-1) wr hI (by omega))
            rw [hM] at HC
            have HX := Lib.hid (max_any (.slice A5 n c5) (dist n (J1 l) k) wr hI (by omega) (by omega))
            have HS := Lib.hid (fun M (hM : MaxIs (dist n (J1 l) k) M) => hrt.out.succ hk hM)
            clear hlen hdl hM hI hrt
            go_wp2_with fail
            refine HC.out.mono ?_
            rintro e w' ⟨rfl, rfl⟩
            go_wp2_with fail
            refine HX.out.mono ?_
            rintro e w' ⟨M, rfl, hM, rfl⟩
            have HS2 := Lib.hid (HS.out M hM)
            clear hM
            go_wp2_with fail
            all_goals
              go_roundg g2
              case measure => omega
              case rel =>
                refine ⟨k + 1, _, by omega, by go_num, rfl, rfl, ?_⟩
                have h_ : RadTo n (J1 l) (k + 1) (min rad M) := HS2.out
                show RadTo _ _ _ _
                first
                  | (rw [Int.min_eq_left (by omega)] at h_; exact h_)
                  | (rw [Int.min_eq_right (by omega)] at h_; exact h_)
      · have hno : ¬ RadOk (n : Int) l := fun hh => hwh (by have := hh.2.2; rwa [Int.toNat_natCast] at this)
        rw [okG_no hno, szG_no hno]
        obtain ⟨y9, hy9, hd9⟩ := not_whole hn hwh
        have HM : Hid (decide ((-1 : Int) ∈ dist n (J1 l) 0) = true) := decide_eq_true (hd9 ▸ dist_in hn hy9)
        clear hgd hno hwh hy9 hd9
        go_enter Try.func28, Try.ntmps28
        go_wp2_with fail
        refine HD.out.mono ?_
        rintro e w1 ⟨A1, c1, us, rfl, o1, b1⟩
        have e1 := btrans b0 b1
        have g1 := g0.below b1 g0.lt
        obtain ⟨p0, p1, -, -⟩ := g1.two
        have HO := Lib.hid o1
        have HE := Lib.hid e1
        clear HD b0 b1 g0 g1 o1 e1
        obtain ⟨gr, A5, c5, rfl, f5, hI⟩ := row_of HO.out hn
        have hlen := HLEN.out
        have hkl : (0 : Int) < ((distG n l).length : Int) := by omega
        have hdl := dist_len (J1 l) hn
        have HC := Lib.hid (contains_any (.slice A5 n c5) (dist n (J1 l) 0) (-1) w1 hI (by omega))
        rw [HM.out] at HC
        clear hdl hlen hI
        go_wp2_with fail
        go_loopg [6, 25] 0 (fun g rv iv wr => iv = .int .i64 0 ∧ wr = w1)
        case atStart => exact ⟨rfl, rfl⟩
        case round =>
          obtain ⟨rfl, rfl⟩ := hrel
          go_wp2_with fail
          refine HC.out.mono ?_
          rintro e w' ⟨rfl, rfl⟩
          go_wp2_with fail
          go_ret2
          exact ⟨rfl, HE.out⟩
  · have hno : ¬ RadOk s l := fun hh => hgd hh.1
    unfold RetGr at HD
    rw [gdG_no hgd, okG_no hgd] at HD
    rw [okG_no hno, szG_no hno]
    clear hgd hno
    go_enter Try.func28, Try.ntmps28
    go_wp2_with fail
    refine HD.out.mono ?_
    rintro e w1 ⟨A1, c1, us, rfl, o1, b1⟩
    have e1 := btrans b0 b1
    clear HD b0 b1 g0
    go_wp2_with fail
    go_ret2
    exact ⟨rfl, e1⟩
end Go.Proofs.Ytcnfeijniidclaa.rad
