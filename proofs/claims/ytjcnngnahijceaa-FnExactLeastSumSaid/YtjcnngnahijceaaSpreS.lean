/- The contracts of the model's l8Number, l8Inside, l8Spread, SpreadOf and IsStopping. -/
import Derived.Handy
import Derived.Test.YtjcnngnahijceaaSpreI
import Derived.Test.YtjcnngnahijceaaBall
import Derived.Test.YtjcnngnahijceaaNeighS
import Derived.Test.YtjcnngnahijceaaTimeT
import Derived.Deep.DeepCutAuto
import Derived.Deep.RegionHeld3
namespace Go.Proofs.Ytjcnngnahijceaa.ups
open Go.RowKit P2 words edges ints good adjs fns sets rets covs bags balls bitsI func
set_option linter.unusedVariables false

theorem l8Number_any (k : Int) (w : World) : Calls Try.prog 70 #[.int .i64 k] w fun e w' => e = .returned (.bool (inB k 1 8)) ∧ w = w' := by
  have HI := Lib.hid (l1In_any k 1 8 w)
  go_enter Try.func70, Try.ntmps70
  go_wp2_with fail
  refine HI.out.mono ?_
  rintro e w' ⟨rfl, rfl⟩
  go_wp2_with fail
  go_ret
  exact ⟨rfl, rfl⟩
theorem inB_num {k : Int} (h : 1 ≤ k ∧ k ≤ 8) : inB k 1 8 = true := by unfold inB; exact decide_eq_true h
theorem inB_non {k : Int} (h : ¬ (1 ≤ k ∧ k ≤ 8)) : inB k 1 8 = false := by unfold inB; exact decide_eq_false h
/-- how many of the first k numbers of a list are neighbors -/
def inK (l : List Ed) (xs : List Int) (x : Int) (k : Nat) : Nat := ((xs.take k).filter fun y => adj l y x).length
theorem inK_yes {l : List Ed} {xs : List Int} {x y : Int} {k : Nat} (h : xs[k]? = some y) (ha : adj l y x = true) : inK l xs x (k + 1) = inK l xs x k + 1 := by
  unfold inK
  rw [List.take_add_one, h, List.filter_append, List.length_append]
  simp [ha]
theorem inK_no {l : List Ed} {xs : List Int} {x y : Int} {k : Nat} (h : xs[k]? = some y) (ha : adj l y x = false) : inK l xs x (k + 1) = inK l xs x k := by
  unfold inK
  rw [List.take_add_one, h, List.filter_append, List.length_append]
  simp [ha]
theorem inK_len (l : List Ed) (xs : List Int) (x : Int) (k : Nat) : inK l xs x k ≤ k := by
  unfold inK
  exact Nat.le_trans (List.length_filter_le _ _) (by rw [List.length_take]; omega)
def inC (l : List Ed) (xs : List Int) (x : Int) : Nat := (xs.filter fun y => adj l y x).length
theorem inK_all (l : List Ed) (xs : List Int) (x : Int) : inK l xs x xs.length = inC l xs x := by unfold inK inC; rw [List.take_length]
theorem inC_nw (l : List Ed) (d n x : Nat) : inC l (nw (bitB d) n) (x : Int) = (nw (fun y => bitB d y && adj l (y : Int) (x : Int)) n).length := by
  unfold inC nw
  rw [List.filter_map, List.length_map, List.length_map, List.filter_filter]
  congr 1
  exact List.filter_congr fun z _ => by simp [Bool.and_comm]
set_option maxHeartbeats 2000000 in
set_option maxRecDepth 100000 in
theorem l8Inside_any (s x : Int) (v u : Value) (l : List Ed) (xs : List Int) (w : World) (h : Edges w v l) (hl : l.length ≤ 1048576) (hu : Ints w u xs) (hxl : xs.length ≤ 1048576) :
    Calls Try.prog 119 #[.agg #[.int .i64 s, v], u, .int .i64 x] w fun e w' => e = .returned (.int .i64 (inC l xs x : Int)) ∧ Below w.heap.size w w' := by
  obtain ⟨A, c, rfl, -⟩ := h.form
  obtain ⟨A2, c2, rfl, hc2⟩ := hu.form
  have H := Lib.hid h
  have HC2 := Lib.hid hc2
  have HB0 : Hid (Below w.heap.size w (w.alloc (.cells #[.int .i64 s, .slice A l.length c] 28))) := (Below.refl _ _).alloc (Nat.le_refl _) _
  have HG0 := Lib.hid (Blk.new w 28 #[.int .i64 s, .slice A l.length c])
  have HAL := Lib.hid (inK_all l xs x)
  clear h hu hc2
  go_enter Try.func119, Try.ntmps119
  go_wp2_with fail
  go_loopg [7, 8] xs.length (fun g cv iv wr => ∃ k : Nat, k + g = xs.length ∧ cv = .int .i64 (inK l xs x k : Int) ∧ iv = .int .i64 (k : Int) ∧ Blk wr w.heap.size 28 #[.int .i64 s, .slice A l.length c] ∧ Below w.heap.size w wr)
  case atStart => exact ⟨0, by omega, rfl, rfl, HG0.out, HB0.out⟩
  case round =>
    clear HG0 HB0
    obtain ⟨k, hkg, rfl, rfl, hgb, hB⟩ := hrel
    have HG := Lib.hid hgb
    have HB := Lib.hid hB
    have hkl := inK_len l xs x k
    cases gk with
    | zero =>
      obtain rfl : k = xs.length := by omega
      clear hgb hB
      go_wp2_with fail
      go_ret
      exact ⟨ret_int (by rw [HAL.out]), HB.out⟩
    | succ g2 =>
      have hlt : k < xs.length := by omega
      have hlt' : (k : Int) < (xs.length : Int) := by omega
      obtain ⟨y, hy⟩ : ∃ y, xs[k]? = some y := ⟨_, List.getElem?_eq_getElem hlt⟩
      obtain ⟨g5, o5, rfl, c5⟩ := HC2.out k _ hy
      have q5 := nearv.cell_keep c5 hB
      obtain ⟨p0, p1, -, -⟩ := hgb.two
      have HNR := Lib.hid (l2Near_any s y x (.slice A l.length c) l wr.drew (H.out.below hB.drew) hl)
      cases ha : adj l y x with
      | true =>
        have HN := Lib.hid (inK_yes hy ha)
        rw [ha] at HNR
        clear hy c5 hgb hB ha
        generalize inK l xs x k = q at *
        go_wp2_with fail
        refine wp_region_held_drew (S := (fun w' : World => w'.cell? ⟨w.heap.size, 0, none⟩ = some (.int .i64 s) ∧ w'.cell? ⟨w.heap.size, 1, none⟩ = some (.slice A l.length c) ∧ w'.cell? ⟨g5, o5 + k, none⟩ = some (.int .i64 y))) (by kernel_rfl) (by (try dsimp only); simp [*]) (fun hHeld => ?_)
        change wpAnyH _ _ _ _ _ _ #[false, false, false, false, false, false, false] _ _
        refine wpAnyH_take (i := 0) (oi := ⟨some 15, _, _, _, _, _⟩) (v := ?_) rfl (by kernel_rfl) (by kernel_rfl) (by kernel_rfl) (fun _ _ _ h => h) (Or.inl ⟨by rfl, ?_⟩) (by assumption) ?_
        rotate_left
        · (intro w hSw; (try dsimp only at hSw); go_simp; (try (with_reducible rfl)))
        try simp only [Act.put, List.setIfInBounds_toArray, List.set_cons_zero, List.set_cons_succ]
        refine wpAnyH_take (i := 1) (oi := ⟨some 16, _, _, _, _, _⟩) (v := ?_) rfl (by kernel_rfl) (by kernel_rfl) (by kernel_rfl) (fun _ _ _ h => h) (Or.inl ⟨by rfl, ?_⟩) (by assumption) ?_
        rotate_left
        · (intro w hSw; (try dsimp only at hSw); go_simp; (try (with_reducible rfl)))
        try simp only [Act.put, List.setIfInBounds_toArray, List.set_cons_zero, List.set_cons_succ]
        refine wpAnyH_take (i := 2) (oi := ⟨some 17, _, _, _, _, _⟩) (v := ?_) rfl (by kernel_rfl) (by kernel_rfl) (by kernel_rfl) (fun _ _ _ h => h) (Or.inl ⟨by rfl, ?_⟩) (by assumption) ?_
        rotate_left
        · (intro w hSw; (try dsimp only at hSw); go_simp; (try (with_reducible rfl)))
        try simp only [Act.put, List.setIfInBounds_toArray, List.set_cons_zero, List.set_cons_succ]
        refine wpAnyH_take (i := 3) (oi := ⟨some 18, _, _, _, _, _⟩) (v := ?_) rfl (by kernel_rfl) (by kernel_rfl) (by kernel_rfl) (fun _ _ _ h => h) (Or.inl ⟨by rfl, ?_⟩) (by assumption) ?_
        rotate_left
        · (intro w hSw; (try dsimp only at hSw); go_simp; (try (with_reducible rfl)))
        try simp only [Act.put, List.setIfInBounds_toArray, List.set_cons_zero, List.set_cons_succ]
        refine wpAnyH_take (i := 4) (oi := ⟨some 19, _, _, _, _, _⟩) (v := ?_) rfl (by kernel_rfl) (by kernel_rfl) (by kernel_rfl) (fun _ _ _ h => h) (Or.inl ⟨by rfl, ?_⟩) (by assumption) ?_
        rotate_left
        · (intro w hSw; (try dsimp only at hSw); go_simp; (try (with_reducible rfl)))
        try simp only [Act.put, List.setIfInBounds_toArray, List.set_cons_zero, List.set_cons_succ]
        refine wpAnyH_take (i := 5) (oi := ⟨some 20, _, _, _, _, _⟩) (v := ?_) rfl (by kernel_rfl) (by kernel_rfl) (by kernel_rfl) (fun _ _ _ h => h) (Or.inl ⟨by rfl, ?_⟩) (by assumption) ?_
        rotate_left
        · (intro w hSw; (try dsimp only at hSw); go_simp; (try (with_reducible rfl)))
        try simp only [Act.put, List.setIfInBounds_toArray, List.set_cons_zero, List.set_cons_succ]
        refine wpAnyH_ready (rs := [6]) (by kernel_rfl) (by simp) ?_
        refine AllReadyH.cons (o := ⟨some 21, _, _, _, _, _⟩) rfl (fun K hK => ?_) AllReadyH.nil
        go_simp
        refine HNR.out.mono ?_; rintro e w3 ⟨rfl, b3⟩; have d3 : Below wr.heap.size wr w3 := btrans (Below.refl _ _).drew b3; obtain ⟨k0, k1, -, -⟩ := (HG.out.below d3 HG.out.lt).two; have q7 := nearv.cell_keep q5 d3
        go_wp2_with fail
        refine hK.out _ _ (by (try dsimp only); simp [*]) (fun hHeld => ?_)
        clear hK K
        try simp only [List.setIfInBounds_toArray, List.set_cons_zero, List.set_cons_succ]
        refine wpAnyH_done (by kernel_rfl) ?_ _
        have HG3 := Lib.hid (HG.out.below d3 HG.out.lt)
        have HB3 := Lib.hid (btrans HB.out d3)
        clear b3 d3 k0 k1 q7 q5 p0 p1 hHeld
        go_wp2_with fail
        go_roundg g2
        case measure => omega
        case rel => exact ⟨k + 1, by omega, by rw [HN.out]; go_num, by go_num, HG3.out, HB3.out⟩
      | false =>
        have HN := Lib.hid (inK_no hy ha)
        rw [ha] at HNR
        clear hy c5 hgb hB ha
        go_wp2_with fail
        refine wp_region_held_drew (S := (fun w' : World => w'.cell? ⟨w.heap.size, 0, none⟩ = some (.int .i64 s) ∧ w'.cell? ⟨w.heap.size, 1, none⟩ = some (.slice A l.length c) ∧ w'.cell? ⟨g5, o5 + k, none⟩ = some (.int .i64 y))) (by kernel_rfl) (by (try dsimp only); simp [*]) (fun hHeld => ?_)
        change wpAnyH _ _ _ _ _ _ #[false, false, false, false, false, false, false] _ _
        refine wpAnyH_take (i := 0) (oi := ⟨some 15, _, _, _, _, _⟩) (v := ?_) rfl (by kernel_rfl) (by kernel_rfl) (by kernel_rfl) (fun _ _ _ h => h) (Or.inl ⟨by rfl, ?_⟩) (by assumption) ?_
        rotate_left
        · (intro w hSw; (try dsimp only at hSw); go_simp; (try (with_reducible rfl)))
        try simp only [Act.put, List.setIfInBounds_toArray, List.set_cons_zero, List.set_cons_succ]
        refine wpAnyH_take (i := 1) (oi := ⟨some 16, _, _, _, _, _⟩) (v := ?_) rfl (by kernel_rfl) (by kernel_rfl) (by kernel_rfl) (fun _ _ _ h => h) (Or.inl ⟨by rfl, ?_⟩) (by assumption) ?_
        rotate_left
        · (intro w hSw; (try dsimp only at hSw); go_simp; (try (with_reducible rfl)))
        try simp only [Act.put, List.setIfInBounds_toArray, List.set_cons_zero, List.set_cons_succ]
        refine wpAnyH_take (i := 2) (oi := ⟨some 17, _, _, _, _, _⟩) (v := ?_) rfl (by kernel_rfl) (by kernel_rfl) (by kernel_rfl) (fun _ _ _ h => h) (Or.inl ⟨by rfl, ?_⟩) (by assumption) ?_
        rotate_left
        · (intro w hSw; (try dsimp only at hSw); go_simp; (try (with_reducible rfl)))
        try simp only [Act.put, List.setIfInBounds_toArray, List.set_cons_zero, List.set_cons_succ]
        refine wpAnyH_take (i := 3) (oi := ⟨some 18, _, _, _, _, _⟩) (v := ?_) rfl (by kernel_rfl) (by kernel_rfl) (by kernel_rfl) (fun _ _ _ h => h) (Or.inl ⟨by rfl, ?_⟩) (by assumption) ?_
        rotate_left
        · (intro w hSw; (try dsimp only at hSw); go_simp; (try (with_reducible rfl)))
        try simp only [Act.put, List.setIfInBounds_toArray, List.set_cons_zero, List.set_cons_succ]
        refine wpAnyH_take (i := 4) (oi := ⟨some 19, _, _, _, _, _⟩) (v := ?_) rfl (by kernel_rfl) (by kernel_rfl) (by kernel_rfl) (fun _ _ _ h => h) (Or.inl ⟨by rfl, ?_⟩) (by assumption) ?_
        rotate_left
        · (intro w hSw; (try dsimp only at hSw); go_simp; (try (with_reducible rfl)))
        try simp only [Act.put, List.setIfInBounds_toArray, List.set_cons_zero, List.set_cons_succ]
        refine wpAnyH_take (i := 5) (oi := ⟨some 20, _, _, _, _, _⟩) (v := ?_) rfl (by kernel_rfl) (by kernel_rfl) (by kernel_rfl) (fun _ _ _ h => h) (Or.inl ⟨by rfl, ?_⟩) (by assumption) ?_
        rotate_left
        · (intro w hSw; (try dsimp only at hSw); go_simp; (try (with_reducible rfl)))
        try simp only [Act.put, List.setIfInBounds_toArray, List.set_cons_zero, List.set_cons_succ]
        refine wpAnyH_ready (rs := [6]) (by kernel_rfl) (by simp) ?_
        refine AllReadyH.cons (o := ⟨some 21, _, _, _, _, _⟩) rfl (fun K hK => ?_) AllReadyH.nil
        go_simp
        refine HNR.out.mono ?_; rintro e w3 ⟨rfl, b3⟩; have d3 : Below wr.heap.size wr w3 := btrans (Below.refl _ _).drew b3; obtain ⟨k0, k1, -, -⟩ := (HG.out.below d3 HG.out.lt).two; have q7 := nearv.cell_keep q5 d3
        go_wp2_with fail
        refine hK.out _ _ (by (try dsimp only); simp [*]) (fun hHeld => ?_)
        clear hK K
        try simp only [List.setIfInBounds_toArray, List.set_cons_zero, List.set_cons_succ]
        refine wpAnyH_done (by kernel_rfl) ?_ _
        have HG3 := Lib.hid (HG.out.below d3 HG.out.lt)
        have HB3 := Lib.hid (btrans HB.out d3)
        clear b3 d3 k0 k1 q7 q5 p0 p1 hHeld
        go_wp2_with fail
        go_roundg g2
        case measure => omega
        case rel => exact ⟨k + 1, by omega, by rw [HN.out], by go_num, HG3.out, HB3.out⟩
theorem put_bits {n d x : Nat} {L : List Int} (h : PutI (nw (bitB d) n) (x : Int) L) (hx : x < n) : L = nw (bitB (d ||| 2 ^ x)) n :=
  asc_ext h.1 (nw_asc _ _) fun e => by
    rw [h.2.1 e, mem_nw, mem_nw]
    constructor
    · rintro (rfl | ⟨j, hj, hp, rfl⟩)
      · exact ⟨x, hx, by unfold bitB; rw [put_bit]; simp, rfl⟩
      · exact ⟨j, hj, by unfold bitB at hp ⊢; rw [put_bit, hp]; rfl, rfl⟩
    · rintro ⟨j, hj, hp, rfl⟩
      unfold bitB at hp
      rw [put_bit, Bool.or_eq_true, decide_eq_true_iff] at hp
      rcases hp with hp | rfl
      · exact .inr ⟨j, hj, hp, rfl⟩
      · exact .inl rfl
/-- what holds in a round behind the first x nodes -/
def SprR (n : Nat) (l : List Ed) (r R d x : Nat) : Prop := R + 1 ≤ onesN d ∨ ((∀ j, j < x → ¬ AddS n l r d j) ∧ (Stops n l r d ∨ R ≤ onesN d))
def SprO (n : Nat) (l : List Ed) (r R d : Nat) : Prop := Stops n l r d ∨ R ≤ onesN d
theorem SprO.start {n : Nat} {l : List Ed} {r R d : Nat} (h : SprO n l r R d) : SprR n l r R d 0 := .inr ⟨fun j hj => by omega, h⟩
theorem SprR.done {n : Nat} {l : List Ed} {r R d : Nat} (h : SprR n l r R d n) : SprO n l r (R + 1) d := by
  rcases h with h | ⟨h, _⟩
  · exact .inr h
  · exact .inl fun x hx => h x hx.1 hx
theorem SprR.keep {n : Nat} {l : List Ed} {r R d x : Nat} (h : SprR n l r R d x) (hx : ¬ AddS n l r d x) : SprR n l r R d (x + 1) := by
  rcases h with h | ⟨h, h2⟩
  · exact .inl h
  · refine .inr ⟨fun j hj => ?_, h2⟩
    by_cases e : j = x
    · subst e; exact hx
    · exact h j (by omega)
theorem SprR.add {n : Nat} {l : List Ed} {r R d x : Nat} (h : SprR n l r R d x) (hx : AddS n l r d x) (hd : d < 256) (hn : n ≤ 8) : SprR n l r R (d ||| 2 ^ x) (x + 1) := by
  have ho := ones_put hd (show x < 8 by have := hx.1; omega) hx.2.1
  refine .inl ?_
  rcases h with h | ⟨_, h | h⟩
  · omega
  · exact absurd hx (h x)
  · omega
theorem SprO.all {n : Nat} {l : List Ed} {r d : Nat} (h : SprO n l r n d) (hn : n ≤ 8) (hd : d < 2 ^ n) : Stops n l r d := by
  rcases h with h | h
  · exact h
  · have hd8 := Nat.lt_of_lt_of_le hd (pow_le hn)
    have h1 := ones_top ⟨n, by omega⟩ ⟨d, hd8⟩ hd
    have h2 := (ones_full ⟨n, by omega⟩ ⟨d, hd8⟩ hd).1 (by simp only at h1 ⊢; omega)
    exact full_stops h2
set_option maxHeartbeats 4000000 in
set_option maxRecDepth 100000 in
theorem l8Spread_any (n r c : Nat) (v u : Value) (l : List Ed) (w : World) (h : Edges w v l) (hl : l.length ≤ 1048576) (hu : Ints w u (nw (bitB c) n)) (hg : P2.Good (n : Int) l) (hn : n ≤ 8) (hc : c < 2 ^ n) (hr : 1 ≤ r) :
    Calls Try.prog 72 #[.agg #[.int .i64 (n : Int), v], u, .int .i64 (r : Int)] w fun e w' => spN n l r c < 2 ^ n ∧ RowI w (nw (bitB (spN n l r c)) n) e w' := by
  obtain ⟨A, cc, rfl, -⟩ := h.form
  have H := Lib.hid h
  have HGD := Lib.hid hg
  have HC := Lib.hid hc
  have b0 : Below w.heap.size w (w.alloc (.cells #[.int .i64 (n : Int), .slice A l.length cc] 28)) := (Below.refl _ _).alloc (Nat.le_refl _) _
  have HB0 := Lib.hid b0
  have HG0 := Lib.hid (Blk.new w 28 #[.int .i64 (n : Int), .slice A l.length cc])
  have HOW := Lib.hid (times.l1Own_any u _ _ (hu.below b0) (by have := nw_len (bitB c) n; omega))
  have HP8 := Lib.hid (pow_le hn)
  have H0 : Hid (Spr n l r c c) := Spr.base
  have HO0 : Hid (SprO n l r 0 c) := .inr (Nat.zero_le _)
  clear h hg hc hu b0
  go_enter Try.func72, Try.ntmps72
  go_wp2_with fail
  refine HOW.out.mono ?_
  rintro e w1 ⟨A1, c1, rfl, o1, b1⟩
  have HE1 := Lib.hid (btrans HB0.out b1)
  have HG1 := Lib.hid (HG0.out.below b1 HG0.out.lt)
  have HO1 := Lib.hid (own_base (B' := w.heap.size) o1 HB0.out.size)
  clear o1 b1
  go_wp2_with fail
  go_loopg [7, 8] n (fun g ov rv wr => ∃ (R d : Nat) (ow : Value), ow = ov ∧ R + g = n ∧ rv = .int .i64 (R : Int) ∧ Hid (Spr n l r c d) ∧ Hid (SprO n l r R d) ∧ wr.ownsRow w.heap.size 3 1 ow (nw (bitB d) n).length (cellsI (nw (bitB d) n)) ∧ Blk wr w.heap.size 28 #[.int .i64 (n : Int), .slice A l.length cc] ∧ Below w.heap.size w wr)
  case atStart => exact ⟨0, c, _, rfl, by omega, rfl, H0, HO0, HO1.out, HG1.out, HE1.out⟩
  case round =>
    clear H0 HO0 HO1 HG1 HE1 HOW HB0 HG0
    obtain ⟨R, d, ow, rfl, hRg, rfl, hsp, hso, hrow, hgb, hB⟩ := hrel
    obtain ⟨A4, c4, rfl⟩ := own_form hrow
    obtain ⟨p0, p1, -, -⟩ := hgb.two
    have HDN := Lib.hid (spr_lt hsp.out HC.out)
    cases gk with
    | zero =>
      obtain rfl : R = n := by omega
      have HV : Hid (spN R l r c = d) := spN_is hsp.out (hso.out.all hn HDN.out)
      have HR := Lib.hid hrow
      have HB := Lib.hid hB
      clear hrow hgb hB
      go_wp2_with fail
      go_ret
      rw [HV.out]
      exact ⟨HDN.out, A4, c4, rfl, HR.out, HB.out⟩
    | succ g2 =>
      have hRn' : (R : Int) < (n : Int) := by omega
      have HST := Lib.hid hso.out.start
      have HR := Lib.hid hrow
      have HG := Lib.hid hgb
      have HB := Lib.hid hB
      clear hrow hgb hB hso
      go_wp2_with fail
      obtain ⟨wo, hwo⟩ : ∃ wo, wo = wr := ⟨_, rfl⟩
      subst hwo
      clear p0 p1
      go_loopg [7, 9] n (fun g ov xv wr => ∃ (x d : Nat) (ow : Value), ow = ov ∧ x + g = n ∧ xv = .int .i64 (x : Int) ∧ Hid (Spr n l r c d) ∧ Hid (SprR n l r R d x) ∧ wr.ownsRow w.heap.size 3 1 ow (nw (bitB d) n).length (cellsI (nw (bitB d) n)) ∧ Blk wr w.heap.size 28 #[.int .i64 (n : Int), .slice A l.length cc] ∧ Below w.heap.size w wr)
      case atStart => exact ⟨0, d, _, rfl, by omega, rfl, hsp, HST, HR.out, HG.out, HB.out⟩
      case round =>
        clear HST HR HG HB hsp HDN
        obtain ⟨x, d, ow, rfl, hxg, rfl, hsp, hsr, hrow, hgb, hB⟩ := hrel
        obtain ⟨A6, c6, rfl⟩ := own_form hrow
        obtain ⟨p0, p1, -, -⟩ := hgb.two
        have HDN := Lib.hid (spr_lt hsp.out HC.out)
        cases gk with
        | zero =>
          obtain rfl : x = n := by omega
          have HN := Lib.hid hsr.out.done
          have HR := Lib.hid hrow
          have HG := Lib.hid hgb
          have HB := Lib.hid hB
          clear hrow hgb hB
          go_wp2_with fail
          go_roundg g2
          case measure => omega
          case rel => exact ⟨R + 1, d, _, rfl, by omega, by go_num, hsp, HN, HR.out, HG.out, HB.out⟩
        | succ g3 =>
          have hxn : x < n := by omega
          have hxn' : (x : Int) < (n : Int) := by omega
          have hd256 : d < 256 := Nat.lt_of_lt_of_le HDN.out HP8.out
          have HIN := Lib.hid (l8Inside_any (n : Int) (x : Int) (.slice A l.length cc) (.slice A6 (nw (bitB d) n).length c6) l (nw (bitB d) n) wr (H.out.below hB) hl (show Ints _ _ _ from Reads.of_own hrow) (by have := nw_len (bitB d) n; omega))
          rw [inC_nw] at HIN
          have HR := Lib.hid hrow
          have HG := Lib.hid hgb
          have HB := Lib.hid hB
          have hnl := nw_len (bitB d) n
          clear hrow hgb hB
          by_cases hge : r ≤ (nw (fun y => bitB d y && adj l (y : Int) (x : Int)) n).length
          · have hge' : (r : Int) ≤ ((nw (fun y => bitB d y && adj l (y : Int) (x : Int)) n).length : Int) := by omega
            have HNX : Hid (Spr n l r c (d ||| 2 ^ x) ∧ SprR n l r R (d ||| 2 ^ x) (x + 1)) := by
              cases hb : d.testBit x with
              | true =>
                rw [put_same hb]
                exact ⟨hsp.out, hsr.out.keep fun h_ => by have := h_.2.1; rw [hb] at this; cases this⟩
              | false =>
                have hA : AddS n l r d x := ⟨hxn, hb, by rw [← ins_len HGD.out hn HDN.out hb]; exact hge⟩
                exact ⟨Spr.step hsp.out hA, hsr.out.add hA hd256 hn⟩
            have HPB := Lib.hid (fun L (h : PutI (nw (bitB d) n) (x : Int) L) => put_bits h hxn)
            have HASC := Lib.hid (nw_asc (bitB d) n)
            clear hge hsr
            generalize (nw (fun y => bitB d y && adj l (y : Int) (x : Int)) n).length = q at *
            generalize nw (bitB d) n = M at *
            go_wp2_with fail
            refine HIN.out.mono ?_
            rintro e w2 ⟨rfl, b2⟩
            have HB2 := Lib.hid (btrans HB.out b2)
            have HG2 := Lib.hid (HG.out.below b2 HG.out.lt)
            have HPT := Lib.hid (l1Put_own _ M (x : Int) w2 w.heap.size (own_below HR.out b2) HB2.out.size (by omega) HASC.out)
            clear p0 p1 b2
            go_wp2_with fail
            refine HPT.out.mono ?_
            rintro e w3 ⟨L, A7, c7, rfl, hpi, o7, b7⟩
            have HLB := Lib.hid (HPB.out L hpi)
            have HB3 := Lib.hid (btrans HB2.out b7)
            have HG3 := Lib.hid (HG2.out.below b7 HG2.out.lt)
            have HO7 := Lib.hid o7
            clear hpi o7 b7
            go_wp2_with fail
            go_roundg g3
            case measure => omega
            case rel => exact ⟨x + 1, d ||| 2 ^ x, _, rfl, by omega, by go_num, HNX.out.1, HNX.out.2, by rw [← HLB.out]; exact HO7.out, HG3.out, HB3.out⟩
          · have hge' : ¬ (r : Int) ≤ ((nw (fun y => bitB d y && adj l (y : Int) (x : Int)) n).length : Int) := by omega
            have HNX : Hid (SprR n l r R d (x + 1)) := hsr.out.keep fun h_ => hge (by rw [ins_len HGD.out hn HDN.out h_.2.1]; exact h_.2.2)
            clear hge hsr
            generalize (nw (fun y => bitB d y && adj l (y : Int) (x : Int)) n).length = q at *
            go_wp2_with fail
            refine HIN.out.mono ?_
            rintro e w2 ⟨rfl, b2⟩
            have HB2 := Lib.hid (btrans HB.out b2)
            have HG2 := Lib.hid (HG.out.below b2 HG.out.lt)
            have HR2 := Lib.hid (own_below HR.out b2)
            clear p0 p1 b2
            go_wp2_with fail
            go_roundg g3
            case measure => omega
            case rel => exact ⟨x + 1, d, _, rfl, by omega, by go_num, hsp, HNX, HR2.out, HG2.out, HB2.out⟩
theorem setOk_code {n : Nat} {l : List Ed} {xs : List Int} (h : SetOk (n : Int) l xs) : xs = nw (bitB (codeL xs)) n := set_code h.2.2 h.2.1
theorem out_code {n : Nat} {l : List Ed} {d x : Nat} (hg : P2.Good (n : Int) l) (hn : n ≤ 8) (hx : d.testBit x = true) : (nw (fun y => adj l (x : Int) (y : Int)) n).length = inC l (nw (bitB d) n) (x : Int) + onesN (outN l n d x) := by
  rw [inC_nw]
  exact out_len hg hn hx _ fun z _ => rfl
theorem spr_len (s : Int) (l : List Ed) (xs : List Int) (r : Int) : (inG (SpOk s l xs r) (sprL s l xs r)).length ≤ 1048576 := inG_len fun _ => by
  unfold sprL ndN
  have := nw_len (bitB (spN s.toNat l r.toNat (codeL xs))) 8
  omega
end Go.Proofs.Ytjcnngnahijceaa.ups
