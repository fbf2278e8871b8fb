/- Whether a Graph is valid: the contracts of the program's IsGraph and of the model's l2Good, and of what they call. -/
import Derived.Test.YtpeobnmfndelhaaK01
import Derived.Deep.RegionWith
import Derived.Maps.Views
import Derived.DeepKeys4
import Derived.Test.YtpeobnmfndelhaaProg
import Derived.Test.YtpeobnmfndelhaaK02
namespace Go.Proofs.Ytpeobnmfndelhaa.good
open Go.RowKit P2 words edges

theorem quiet_left {P : Program} {f : FuncId} {args : Array Value} {w : World} {n : Nat} {v : Value}
    (h : Calls P f args (w.drewN n) fun e w' => e = .returned v ∧ w.drewN n = w') : Calls P f args (w.drewN n) fun e w'' => e = .returned v ∧ ∃ m, w'' = w.drewN m :=
  h.mono fun _ _ ⟨he, hm⟩ => ⟨he, n, hm.symm⟩

theorem l1In_yes (x a b : Int) (w : World) (h1 : a ≤ x) (h2 : x ≤ b) :
    Calls Try.prog 72 #[.int .i64 x, .int .i64 a, .int .i64 b] w fun e w' => e = .returned (.bool true) ∧ w = w' := by
  go_enter Try.func72, Try.ntmps72
  go_wp2_with fail
  go_ret
  exact ⟨rfl, rfl⟩
theorem l1In_no (x a b : Int) (w : World) (h : x < a ∨ b < x) :
    Calls Try.prog 72 #[.int .i64 x, .int .i64 a, .int .i64 b] w fun e w' => e = .returned (.bool false) ∧ w = w' := by
  by_cases h1 : a ≤ x
  · have h2 : ¬ x ≤ b := by omega
    have d2 : decide (x ≤ b) = false := by simpa using h2
    clear h
    go_enter Try.func72, Try.ntmps72
    go_wp2_with fail
    go_ret
    exact ⟨rfl, rfl⟩
  · have d1 : decide (a ≤ x) = false := by simpa using h1
    clear h
    go_enter Try.func72, Try.ntmps72
    go_wp2_with fail
    go_ret
    exact ⟨rfl, rfl⟩
def inB (x a b : Int) : Bool := decide (a ≤ x ∧ x ≤ b)
theorem l1In_any (x a b : Int) (w : World) :
    Calls Try.prog 72 #[.int .i64 x, .int .i64 a, .int .i64 b] w fun e w' => e = .returned (.bool (inB x a b)) ∧ w = w' := by
  by_cases h : a ≤ x ∧ x ≤ b
  · have : inB x a b = true := by simp [inB, h]
    rw [this]; exact l1In_yes x a b w h.1 h.2
  · have : inB x a b = false := by simp only [inB, decide_eq_false_iff_not]; exact h
    rw [this]; exact l1In_no x a b w (by omega)

def lexB (a b : Ed) : Bool := decide (Lex a b)
theorem l2Before_any (a b c d : Int) (w : World) :
    Calls Try.prog 137 #[.agg #[.int .i64 a, .int .i64 b], .agg #[.int .i64 c, .int .i64 d]] w fun e w' => e = .returned (.bool (lexB (a, b) (c, d))) ∧ Below w.heap.size w w' := by
  have hL : lexB (a, b) (c, d) = decide (a < c ∨ (a = c ∧ b < d)) := rfl
  have hB : Below w.heap.size w ((w.alloc (.cells #[.int .i64 a, .int .i64 b] 115)).alloc (.cells #[.int .i64 c, .int .i64 d] 115)) := ((Below.refl _ _).alloc (Nat.le_refl _) _).alloc (by simp) _
  have HB := Lib.hid hB
  clear hB
  rcases Int.lt_trichotomy a c with h | h | h
  · rw [show lexB (a, b) (c, d) = true from by rw [hL]; simp [h]]
    have d1 : decide (a < c) = true := by simpa using h
    clear hL
    go_enter Try.func137, Try.ntmps137
    go_wp2_with fail
    go_ret
    exact ⟨rfl, HB.out⟩
  · subst h
    have d1 : decide (a < a) = false := by simp
    have d2 : (a == a) = true := by simp
    rcases (show b < d ∨ d ≤ b from by omega) with h | h
    · rw [show lexB (a, b) (a, d) = true from by rw [hL]; simp [h]]
      have d3 : decide (b < d) = true := by simpa using h
      clear hL
      go_enter Try.func137, Try.ntmps137
      go_wp2_with fail
      go_ret
      exact ⟨rfl, HB.out⟩
    · rw [show lexB (a, b) (a, d) = false from by rw [hL]; simp; omega]
      have d3 : decide (b < d) = false := by simp; omega
      clear hL
      go_enter Try.func137, Try.ntmps137
      go_wp2_with fail
      go_ret
      exact ⟨rfl, HB.out⟩
  · rw [show lexB (a, b) (c, d) = false from by rw [hL]; simp; omega]
    have d1 : decide (a < c) = false := by simp; omega
    have d2 : (a == c) = false := by simp; omega
    clear hL
    go_enter Try.func137, Try.ntmps137
    go_wp2_with fail
    go_ret
    exact ⟨rfl, HB.out⟩

def cmpI (a b : Int) : Int := if a < b then -1 else if b < a then 1 else 0
theorem compare_any (a b : Int) (w : World) :
    Calls Try.prog 157 #[.int .i64 a, .int .i64 b] w fun e w' => e = .returned (.int .i64 (cmpI a b)) ∧ w = w' := by
  have ha : (a != a) = false := by simp
  have hb : (b != b) = false := by simp
  rcases Int.lt_trichotomy a b with h | h | h
  · rw [show cmpI a b = -1 from by unfold cmpI; rw [if_pos h]]
    go_enter Try.func157, Try.ntmps157
    go_wp2
    go_ret
    exact ⟨rfl, rfl⟩
  · rw [show cmpI a b = 0 from by unfold cmpI; rw [if_neg (by omega), if_neg (by omega)]]
    go_enter Try.func157, Try.ntmps157
    go_wp2
    go_ret
    exact ⟨rfl, rfl⟩
  · rw [show cmpI a b = 1 from by unfold cmpI; rw [if_neg (by omega), if_pos h]]
    go_enter Try.func157, Try.ntmps157
    go_wp2
    go_ret
    exact ⟨rfl, rfl⟩
def cmpE (a b : Ed) : Int := if cmpI a.1 b.1 = 0 then cmpI a.2 b.2 else cmpI a.1 b.1
theorem cmpE_lex {a b : Ed} (h : Lex a b) : cmpE a b = -1 := by
  unfold Lex at h; unfold cmpE cmpI
  split <;> split at * <;> (try split at *) <;> (try split) <;> omega
theorem cmpE_not {a b : Ed} (h : ¬ Lex a b) : 0 ≤ cmpE a b := by
  unfold Lex at h; unfold cmpE cmpI
  split <;> split at * <;> (try split at *) <;> (try split) <;> omega
theorem compare2_any (g1 o1 c1 g2 o2 c2 : Nat) (a b : Ed) (w : World) (h0 : w.cell? ⟨g1, o1, none⟩ = some (.int .i64 a.1)) (h1 : w.cell? ⟨g1, o1 + 1, none⟩ = some (.int .i64 a.2))
    (k0 : w.cell? ⟨g2, o2, none⟩ = some (.int .i64 b.1)) (k1 : w.cell? ⟨g2, o2 + 1, none⟩ = some (.int .i64 b.2)) :
    Calls Try.prog 128 #[.slice (some ⟨g1, o1, none⟩) 2 c1, .slice (some ⟨g2, o2, none⟩) 2 c2] w fun e w' => e = .returned (.int .i64 (cmpE a b)) ∧ w = w' := by
  obtain ⟨a1, a2⟩ := a
  obtain ⟨b1, b2⟩ := b
  obtain ⟨r1, hr1⟩ : ∃ r, cmpI a1 b1 = r := ⟨_, rfl⟩
  obtain ⟨r2, hr2⟩ : ∃ r, cmpI a2 b2 = r := ⟨_, rfl⟩
  have C1 := fun W => compare_any a1 b1 W
  have C2 := fun W => compare_any a2 b2 W
  unfold cmpE
  simp only at h0 h1 k0 k1 ⊢
  rw [hr1] at C1 ⊢
  rw [hr2] at C2 ⊢
  have D1 := Lib.hid C1
  have D2 := Lib.hid C2
  clear C1 C2 hr1 hr2
  by_cases hz : r1 = 0
  · rw [if_pos hz]
    subst hz
    by_cases hy : r2 = 0
    · subst hy
      go_enter Try.func128, Try.ntmps128
      go_wp2_with fail
      refine wp_loop_rounds 3 ?_
      rw [rounds_succ]
      go_wp2_with (go_at_call 157; refine (D1.out _).mono ?_; rintro e w' ⟨rfl, rfl⟩)
      rw [rounds_succ]
      go_wp2_with (go_at_call 157; refine (D2.out _).mono ?_; rintro e w' ⟨rfl, rfl⟩)
      rw [rounds_succ]
      go_wp2_with fail
      go_ret
      exact ⟨rfl, rfl⟩
    · have d2 : (r2 != 0) = true := by simpa using hy
      go_enter Try.func128, Try.ntmps128
      go_wp2_with fail
      refine wp_loop_rounds 3 ?_
      rw [rounds_succ]
      go_wp2_with (go_at_call 157; refine (D1.out _).mono ?_; rintro e w' ⟨rfl, rfl⟩)
      rw [rounds_succ]
      go_wp2_with (go_at_call 157; refine (D2.out _).mono ?_; rintro e w' ⟨rfl, rfl⟩)
      go_ret
      exact ⟨rfl, rfl⟩
  · rw [if_neg hz]
    have d2 : (r1 != 0) = true := by simpa using hz
    go_enter Try.func128, Try.ntmps128
    go_wp2_with fail
    refine wp_loop_rounds 3 ?_
    rw [rounds_succ]
    go_wp2_with (go_at_call 157; refine (D1.out _).mono ?_; rintro e w' ⟨rfl, rfl⟩)
    go_ret
    exact ⟨rfl, rfl⟩

theorem ok_of {m : Int} {l : List Ed} {k : Nat} {e : Ed} (he : l[k]? = some e) (h1 : 0 ≤ e.1) (h2 : e.1 < e.2) (h3 : e.2 ≤ m) (h4 : ∀ d, 0 < k → l[k - 1]? = some d → Lex d e) : OkAt m l k := fun e' he' => by
  rw [he] at he'; cases he'; exact ⟨h1, h2, h3, h4⟩
theorem not_ok_of {m : Int} {l : List Ed} {k : Nat} {e : Ed} (he : l[k]? = some e) (h : e.1 < 0 ∨ e.2 ≤ e.1 ∨ m < e.2) : ¬ OkAt m l k := fun H => by
  have := H e he; omega
theorem not_ok_lex {m : Int} {l : List Ed} {k : Nat} {d e : Ed} (he : l[k]? = some e) (hk : 0 < k) (hd : l[k - 1]? = some d) (h : ¬ Lex d e) : ¬ OkAt m l k := fun H => h ((H e he).2.2.2 d hk hd)

set_option maxHeartbeats 1000000 in
theorem implIsGraph_no (s : Int) (v : Value) (l : List Ed) (w : World) (h : Edges w v l) (hs : s < 0 ∨ 8 < s) :
    Calls Try.prog 91 #[.agg #[.int .i64 s, v]] w fun e w' => e = .returned (.bool false) ∧ Below w.heap.size w w' := by
  obtain ⟨A, c, rfl, -⟩ := h.form
  clear h
  by_cases h0 : s < 0
  · have d0 : decide (s < 0) = true := by simpa using h0
    clear hs
    go_enter Try.func91, Try.ntmps91
    go_wp2_with fail
    go_ret
    exact ⟨rfl, (Below.refl _ _).alloc (Nat.le_refl _) _⟩
  · have d0 : decide (s < 0) = false := by simpa using h0
    have d1 : decide (8 < s) = true := by simp; omega
    clear hs
    go_enter Try.func91, Try.ntmps91
    go_wp2_with fail
    go_ret
    exact ⟨rfl, (Below.refl _ _).alloc (Nat.le_refl _) _⟩

set_option maxHeartbeats 1000000 in
theorem implIsGraph_in (s : Int) (v : Value) (l : List Ed) (w : World) (h : Edges w v l) (h0 : 0 ≤ s) (h8 : s ≤ 8) (hl : l.length ≤ 1048576) :
    Calls Try.prog 91 #[.agg #[.int .i64 s, v]] w fun e w' => e = .returned (.bool (goodB s l)) ∧ Below w.heap.size w w' := by
  have hbx := Blk.new w 30 #[.int .i64 s, v]
  have hb1 : Below w.heap.size w (w.alloc (.cells #[.int .i64 s, v] 30)) := (Below.refl _ _).alloc (Nat.le_refl _) _
  obtain ⟨A, c, rfl, hc⟩ := h.form
  have HC := Lib.hid hc
  have d0 : decide (s < 0) = false := by simpa using h0
  have d1 : decide (8 < s) = false := by simpa using h8
  clear h hc
  go_enter Try.func91, Try.ntmps91
  go_wp2_with fail
  go_loopw [16] (fun i wr => ∃ k : Nat, k ≤ l.length ∧ i = .int .i64 (k : Int) ∧ Hid (OkTo (s - 1) l k) ∧ Blk wr w.heap.size 30 #[.int .i64 s, .slice A l.length c] ∧ Below w.heap.size w wr) (fun i _ => l.length - (intOf i).toNat)
  case atStart => exact ⟨0, Nat.zero_le _, rfl, OkTo.zero _ _, hbx, hb1⟩
  case round =>
    obtain ⟨k, hk, rfl, hok, hbk, hB⟩ := hrel
    by_cases hlt : k < l.length
    · obtain ⟨x, hx⟩ : ∃ x, l[k]? = some x := ⟨_, List.getElem?_eq_getElem hlt⟩
      obtain ⟨g, o, rfl, c0, c1⟩ := HC.out k x hx
      have hlt' : (k : Int) < (l.length : Int) := by omega
      have q0 : wr.cell? ⟨g, o + k * 2, none⟩ = some (.int .i64 x.1) := (hB.cell (p := ⟨g, o + k * 2, none⟩) (World.block_lt_of_cell? w (a := ⟨g, o + k * 2, none⟩) c0)).trans c0
      have q1 : wr.cell? ⟨g, o + k * 2 + 1, none⟩ = some (.int .i64 x.2) := (hB.cell (p := ⟨g, o + k * 2 + 1, none⟩) (World.block_lt_of_cell? w (a := ⟨g, o + k * 2 + 1, none⟩) c1)).trans c1
      obtain ⟨p0, p1, z0, z1⟩ := hbk.two
      have hsz : w.heap.size < wr.heap.size := hbk.lt
      obtain ⟨a, b⟩ := x
      have HBK := Lib.hid hbk
      clear hbk c0 c1
      by_cases ha : 0 ≤ a
      · by_cases hab : a < b
        · by_cases hbs : b < s
          · by_cases hk0 : k = 0
            · have dk : decide (0 < k) = false := by simp; omega
              have dk' : decide ((0 : Int) < (k : Int)) = false := by simp; omega
              have HOK := Lib.hid (hok.out.succ (ok_of hx ha hab (by simp only; omega) (fun d h => by omega)))
              clear hx hk0
              go_wp2_with fail
              go_quiet (fail)
              go_wp2_with fail
              go_roundw
              case rel => exact ⟨k + 1, by omega, by go_num, HOK, (HBK.out.alloc _).drewN _, below_drewN (hB.alloc (by omega) _) _⟩
              case measure => simp [intOf]; omega
            · obtain ⟨j, rfl⟩ : ∃ j, k = j + 1 := ⟨k - 1, by omega⟩
              obtain ⟨y, hy⟩ : ∃ y, l[j]? = some y := ⟨_, List.getElem?_eq_getElem (by omega)⟩
              obtain ⟨g', o', e', c2, c3⟩ := HC.out j y hy
              obtain ⟨rfl, rfl⟩ : g = g' ∧ o = o' := by simpa using e'
              have q2 : wr.cell? ⟨g, o + j * 2, none⟩ = some (.int .i64 y.1) := (hB.cell (p := ⟨g, o + j * 2, none⟩) (World.block_lt_of_cell? w (a := ⟨g, o + j * 2, none⟩) c2)).trans c2
              have q3 : wr.cell? ⟨g, o + j * 2 + 1, none⟩ = some (.int .i64 y.2) := (hB.cell (p := ⟨g, o + j * 2 + 1, none⟩) (World.block_lt_of_cell? w (a := ⟨g, o + j * 2 + 1, none⟩) c3)).trans c3
              have hg : g < wr.heap.size := World.block_lt_of_cell? wr (a := ⟨g, o + j * 2, none⟩) q2
              have HW : Hid (∀ n, Calls Try.prog 128 #[.slice (some ⟨g, o + j * 2, none⟩) 2 2, .slice (some ⟨wr.heap.size, 0, none⟩) 2 2] ((wr.alloc (.cells #[.int .i64 a, .int .i64 b] 115)).drewN n) fun e w' => e = .returned (.int .i64 (cmpE y (a, b))) ∧ (wr.alloc (.cells #[.int .i64 a, .int .i64 b] 115)).drewN n = w') := fun n =>
                compare2_any g (o + j * 2) 2 wr.heap.size 0 2 y (a, b) _ ((World.cell?_alloc_lt wr _ _ hg).trans q2) ((World.cell?_alloc_lt wr _ _ hg).trans q3) ((Blk.new wr _ #[.int .i64 a, .int .i64 b]).cell 0) ((Blk.new wr _ #[.int .i64 a, .int .i64 b]).cell 1)
              clear c2 c3 e' q2 q3 hg
              by_cases hL : Lex y (a, b)
              · have HOK := Lib.hid (hok.out.succ (ok_of hx ha hab (by simp only; omega) (fun d _ hd => by
                  rw [Nat.add_sub_cancel] at hd; rw [hy] at hd; cases hd; exact hL)))
                rw [cmpE_lex hL] at HW
                clear hx hy hL
                go_wp2_with fail
                go_quiet ((go_at_call 128; exact quiet_left (HW.out _)))
                go_wp2_with fail
                go_roundw
                case rel => exact ⟨j + 1 + 1, by omega, by go_num, HOK, (HBK.out.alloc _).drewN _, below_drewN (hB.alloc (by omega) _) _⟩
                case measure => simp [intOf]; omega
              · have HN := Lib.hid (goodB_no (s := s) (not_good_at hlt (not_ok_lex hx (m := s - 1) (by omega) (by rw [Nat.add_sub_cancel]; exact hy) hL)))
                have hr := cmpE_not hL
                obtain ⟨r, hr2⟩ : ∃ r, cmpE y (a, b) = r := ⟨_, rfl⟩
                rw [hr2] at HW hr
                clear hx hy hL hr2
                go_wp2_with fail
                go_quiet ((go_at_call 128; exact quiet_left (HW.out _)))
                go_wp2_with fail
                go_ret
                exact ⟨ret_bool HN.out.symm, below_drewN (hB.alloc (by omega) _) _⟩
          · have HN := Lib.hid (goodB_no (s := s) (not_good_at hlt (not_ok_of hx (m := s - 1) (.inr (.inr (by simp only; omega))))))
            have db : decide (s ≤ b) = true := by simp; omega
            clear hx
            go_wp2_with fail
            go_ret
            exact ⟨ret_bool HN.out.symm, hB.alloc (by omega) _⟩
        · have HN := Lib.hid (goodB_no (s := s) (not_good_at hlt (not_ok_of hx (m := s - 1) (.inr (.inl (by simp only; omega))))))
          have db : decide (b ≤ a) = true := by simp; omega
          clear hx
          go_wp2_with fail
          go_ret
          exact ⟨ret_bool HN.out.symm, hB.alloc (by omega) _⟩
      · have HN := Lib.hid (goodB_no (s := s) (not_good_at hlt (not_ok_of hx (m := s - 1) (.inl (by simp only; omega)))))
        have da : decide (a < 0) = true := by simp; omega
        clear hx
        go_wp2_with fail
        go_ret
        exact ⟨ret_bool HN.out.symm, hB.alloc (by omega) _⟩
    · have HN := Lib.hid (goodB_yes (s := s) (l := l) ⟨h0, h8, by have := hok.out; rwa [show k = l.length from by omega] at this⟩)
      go_wp2_with fail
      go_ret
      exact ⟨ret_bool HN.out.symm, hB⟩
end Go.Proofs.Ytpeobnmfndelhaa.good

/- Whether a Graph is valid: the contract of the model's l2Good, for every Graph; and that of the program's IsGraph put together. -/
namespace Go.Proofs.Ytpeobnmfndelhaa.good
open Go.RowKit P2 words edges

theorem implIsGraph_any (s : Int) (v : Value) (l : List Ed) (w : World) (h : Edges w v l) (hl : l.length ≤ 1048576) :
    Calls Try.prog 91 #[.agg #[.int .i64 s, v]] w fun e w' => e = .returned (.bool (goodB s l)) ∧ Below w.heap.size w w' := by
  by_cases h0 : 0 ≤ s ∧ s ≤ 8
  · exact implIsGraph_in s v l w h h0.1 h0.2 hl
  · rw [goodB_no (fun g => h0 ⟨g.1, g.2.1⟩)]
    exact implIsGraph_no s v l w h (by omega)

theorem keep6 {P : Program} {f : FuncId} {args : Array Value} {W : World} {R : Ending → Prop} {p q r s t u : Addr} {a b c d x y : Value}
    (h : Calls P f args W fun e w' => R e ∧ Below W.heap.size W w') (hp : W.cell? p = some a) (hq : W.cell? q = some b) (hr : W.cell? r = some c) (hs : W.cell? s = some d) (ht : W.cell? t = some x) (hu : W.cell? u = some y) :
    Calls P f args W fun e w' => R e ∧ w'.cell? p = some a ∧ w'.cell? q = some b ∧ w'.cell? r = some c ∧ w'.cell? s = some d ∧ w'.cell? t = some x ∧ w'.cell? u = some y ∧ Below W.heap.size W w' :=
  h.mono fun _ _ ⟨he, hb⟩ => ⟨he, (hb.cell (World.block_lt_of_cell? W _ hp)).trans hp, (hb.cell (World.block_lt_of_cell? W _ hq)).trans hq, (hb.cell (World.block_lt_of_cell? W _ hr)).trans hr, (hb.cell (World.block_lt_of_cell? W _ hs)).trans hs,
    (hb.cell (World.block_lt_of_cell? W _ ht)).trans ht, (hb.cell (World.block_lt_of_cell? W _ hu)).trans hu, hb⟩

noncomputable def goodM (s m : Int) (l : List Ed) : Bool := @decide (OkTo m l l.length ∧ 0 ≤ s ∧ s ≤ 8) (Classical.propDecidable _)
theorem goodM_no {s m : Int} {l : List Ed} {k : Nat} (h : ¬ OkAt m l k) (hk : k < l.length) : goodM s m l = false := by
  unfold goodM
  exact @decide_eq_false _ (Classical.propDecidable _) (fun H => h (H.1 k hk))
theorem goodM_eq {s m : Int} {l : List Ed} (h : 0 ≤ s → s ≤ 8 → m = s - 1) : goodM s m l = goodB s l := by
  unfold goodM goodB
  refine decide_eq_decide.2 ?_
  show _ ↔ (_ ∧ _)
  constructor
  · rintro ⟨h1, h2, h3⟩; rw [h h2 h3] at h1; exact ⟨h2, h3, h1⟩
  · rintro ⟨h2, h3, h1⟩; rw [h h2 h3]; exact ⟨h1, h2, h3⟩
set_option maxHeartbeats 1000000 in
set_option maxRecDepth 100000 in
theorem l2Good_m (s m : Int) (v : Value) (l : List Ed) (w : World) (h : Edges w v l) (hl : l.length ≤ 1048576) (hm : IntKind.i64.wrap (s - 1) = m) :
    Calls Try.prog 89 #[.agg #[.int .i64 s, v]] w fun e w' => e = .returned (.bool (goodM s m l)) ∧ Below w.heap.size w w' := by
  have hbx := Blk.new w 30 #[.int .i64 s, v]
  have hb1 : Below w.heap.size w (w.alloc (.cells #[.int .i64 s, v] 30)) := (Below.refl _ _).alloc (Nat.le_refl _) _
  obtain ⟨A, c, rfl, hc⟩ := h.form
  have HC := Lib.hid hc
  have HM := Lib.hid hm
  clear h hc hm
  go_enter Try.func89, Try.ntmps89
  go_wp2_with fail
  go_loopw [3] (fun i wr => ∃ k : Nat, k ≤ l.length ∧ i = .int .i64 (k : Int) ∧ Hid (OkTo m l k) ∧ Blk wr w.heap.size 30 #[.int .i64 s, .slice A l.length c] ∧ Below w.heap.size w wr) (fun i _ => l.length - (intOf i).toNat)
  case atStart => exact ⟨0, Nat.zero_le _, rfl, OkTo.zero _ _, hbx, hb1⟩
  case round =>
    obtain ⟨k, hk, rfl, hok, hbk, hB⟩ := hrel
    obtain ⟨p0, p1, z0, z1⟩ := hbk.two
    have hsz : w.heap.size < wr.heap.size := hbk.lt
    by_cases hlt : k < l.length
    · obtain ⟨x, hx⟩ : ∃ x, l[k]? = some x := ⟨_, List.getElem?_eq_getElem hlt⟩
      obtain ⟨g, o, rfl, c0, c1⟩ := HC.out k x hx
      have hlt' : (k : Int) < (l.length : Int) := by omega
      have q0 : wr.cell? ⟨g, o + k * 2, none⟩ = some (.int .i64 x.1) := (hB.cell (p := ⟨g, o + k * 2, none⟩) (World.block_lt_of_cell? w (a := ⟨g, o + k * 2, none⟩) c0)).trans c0
      have q1 : wr.cell? ⟨g, o + k * 2 + 1, none⟩ = some (.int .i64 x.2) := (hB.cell (p := ⟨g, o + k * 2 + 1, none⟩) (World.block_lt_of_cell? w (a := ⟨g, o + k * 2 + 1, none⟩) c1)).trans c1
      obtain ⟨a, b⟩ := x
      have HBK := Lib.hid hbk
      clear hbk c0 c1
      by_cases ha : 0 ≤ a ∧ a ≤ m
      · have ia : inB a 0 m = true := by simpa [inB] using ha
        by_cases hb : 0 ≤ b ∧ b ≤ m
        · have ib : inB b 0 m = true := by simpa [inB] using hb
          by_cases hab : a < b
          · have dab : decide (b ≤ a) = false := by simp; omega
            by_cases hk0 : k = 0
            · have dk : decide (0 < k) = false := by simp; omega
              have dk' : decide ((0 : Int) < (k : Int)) = false := by simp; omega
              have HOK := Lib.hid (hok.out.succ (ok_of (m := m) hx ha.1 hab (by simp only; omega) (fun d h => by omega)))
              clear hx hk0
              go_wp2_with fail
              have hm := HM.out
              go_quiet ((go_at_call 72; exact quiet_left (l1In_any _ _ _ _)))
              clear hm
              go_wp2_with fail
              go_roundw
              case rel => exact ⟨k + 1, by omega, by go_num, HOK, (HBK.out.alloc _).drewN _, below_drewN (hB.alloc (by omega) _) _⟩
              case measure => simp [intOf]; omega
            · obtain ⟨j, rfl⟩ : ∃ j, k = j + 1 := ⟨k - 1, by omega⟩
              obtain ⟨y, hy⟩ : ∃ y, l[j]? = some y := ⟨_, List.getElem?_eq_getElem (by omega)⟩
              obtain ⟨g', o', e', c2, c3⟩ := HC.out j y hy
              obtain ⟨rfl, rfl⟩ : g = g' ∧ o = o' := by simpa using e'
              have q2 : wr.cell? ⟨g, o + j * 2, none⟩ = some (.int .i64 y.1) := (hB.cell (p := ⟨g, o + j * 2, none⟩) (World.block_lt_of_cell? w (a := ⟨g, o + j * 2, none⟩) c2)).trans c2
              have q3 : wr.cell? ⟨g, o + j * 2 + 1, none⟩ = some (.int .i64 y.2) := (hB.cell (p := ⟨g, o + j * 2 + 1, none⟩) (World.block_lt_of_cell? w (a := ⟨g, o + j * 2 + 1, none⟩) c3)).trans c3
              obtain ⟨y1, y2⟩ := y
              clear c2 c3 e'
              by_cases hL : Lex (y1, y2) (a, b)
              · have HOK := Lib.hid (hok.out.succ (ok_of (m := m) hx ha.1 hab (by simp only; omega) (fun d h hd => by
                  rw [Nat.add_sub_cancel] at hd; rw [hy] at hd; cases hd; exact hL)))
                have il : lexB (y1, y2) (a, b) = true := by simpa [lexB] using hL
                clear hx hy hL
                go_wp2_with fail
                have hm := HM.out
                have hj1 : IntKind.i64.wrap ((j : Int) + 1 - 1) = (j : Int) := by rw [show (j : Int) + 1 - 1 = (j : Int) from by omega]; exact IntWalk.i64_in _ (by omega)
                have hj1' : IntKind.i64.wrap (j : Int) = (j : Int) := IntWalk.i64_in _ (by omega)
                have hj2 : (0 : Int) ≤ (j : Int) := by omega
                have hj4 : j < l.length := by omega
                have hj3 : (j : Int) < (l.length : Int) := by omega
                go_region_held3 (fun w' => w'.cell? ⟨g, o + j * 2, none⟩ = some (.int .i64 y1) ∧ w'.cell? ⟨g, o + j * 2 + 1, none⟩ = some (.int .i64 y2) ∧ w'.cell? ⟨wr.heap.size, 0, none⟩ = some (.int .i64 a) ∧ w'.cell? ⟨wr.heap.size, 1, none⟩ = some (.int .i64 b) ∧ w'.cell? ⟨w.heap.size, 0, none⟩ = some (.int .i64 s) ∧ w'.cell? ⟨w.heap.size, 1, none⟩ = some (.slice (some ⟨g, o, none⟩) l.length c)) (go_keep)
                  (first | (go_at_call 72; refine (l1In_any _ _ _ _).mono ?_; rintro e w1 ⟨rfl, rfl⟩)
                         | (go_at_call 137; refine (keep6 (p := ⟨g, o + j * 2, none⟩) (q := ⟨g, o + j * 2 + 1, none⟩) (r := ⟨wr.heap.size, 0, none⟩) (s := ⟨wr.heap.size, 1, none⟩) (t := ⟨w.heap.size, 0, none⟩) (u := ⟨w.heap.size, 1, none⟩) (l2Before_any y1 y2 a b _) (a := .int .i64 y1) (b := .int .i64 y2) (c := .int .i64 a) (d := .int .i64 b) (x := .int .i64 s) (y := .slice (some ⟨g, o, none⟩) l.length c) ?_ ?_ ?_ ?_ ?_ ?_).mono ?_; (simp [*]); (simp [*]); (simp [*]); (simp [*]); (simp [*]); (simp [*]); rintro e w1 ⟨rfl, k0, k1, k2, k3, k4, k5, hb⟩))
                have hB2 : Below w.heap.size w w1 := (below_drewN (hB.alloc (by omega) (.cells #[.int .i64 a, .int .i64 b] 115)) 1).trans (hb.mono (by simp; omega))
                have hb2 : Blk w1 w.heap.size 30 #[.int .i64 s, .slice (some ⟨g, o, none⟩) l.length c] := ((HBK.out.alloc (.cells #[.int .i64 a, .int .i64 b] 115)).drewN 1).below hb (by simp; omega)
                clear hm hj1 hj1' hj2 hj3 hj4 hb
                go_wp2_with fail
                go_roundw
                case rel => exact ⟨j + 1 + 1, by omega, by go_num, HOK, hb2, hB2⟩
                case measure => simp [intOf]; omega
              · have HN : Hid (goodM s m l = false) := goodM_no (not_ok_lex hx (m := m) (by omega) (by rw [Nat.add_sub_cancel]; exact hy) hL) hlt
                have il : lexB (y1, y2) (a, b) = false := by simpa [lexB] using hL
                clear hx hy hL
                go_wp2_with fail
                have hm := HM.out
                have hj1 : IntKind.i64.wrap ((j : Int) + 1 - 1) = (j : Int) := by rw [show (j : Int) + 1 - 1 = (j : Int) from by omega]; exact IntWalk.i64_in _ (by omega)
                have hj1' : IntKind.i64.wrap (j : Int) = (j : Int) := IntWalk.i64_in _ (by omega)
                have hj2 : (0 : Int) ≤ (j : Int) := by omega
                have hj4 : j < l.length := by omega
                have hj3 : (j : Int) < (l.length : Int) := by omega
                go_region_held3 (fun w' => w'.cell? ⟨g, o + j * 2, none⟩ = some (.int .i64 y1) ∧ w'.cell? ⟨g, o + j * 2 + 1, none⟩ = some (.int .i64 y2) ∧ w'.cell? ⟨wr.heap.size, 0, none⟩ = some (.int .i64 a) ∧ w'.cell? ⟨wr.heap.size, 1, none⟩ = some (.int .i64 b) ∧ w'.cell? ⟨w.heap.size, 0, none⟩ = some (.int .i64 s) ∧ w'.cell? ⟨w.heap.size, 1, none⟩ = some (.slice (some ⟨g, o, none⟩) l.length c)) (go_keep)
                  (first | (go_at_call 72; refine (l1In_any _ _ _ _).mono ?_; rintro e w1 ⟨rfl, rfl⟩)
                         | (go_at_call 137; refine (keep6 (p := ⟨g, o + j * 2, none⟩) (q := ⟨g, o + j * 2 + 1, none⟩) (r := ⟨wr.heap.size, 0, none⟩) (s := ⟨wr.heap.size, 1, none⟩) (t := ⟨w.heap.size, 0, none⟩) (u := ⟨w.heap.size, 1, none⟩) (l2Before_any y1 y2 a b _) (a := .int .i64 y1) (b := .int .i64 y2) (c := .int .i64 a) (d := .int .i64 b) (x := .int .i64 s) (y := .slice (some ⟨g, o, none⟩) l.length c) ?_ ?_ ?_ ?_ ?_ ?_).mono ?_; (simp [*]); (simp [*]); (simp [*]); (simp [*]); (simp [*]); (simp [*]); rintro e w1 ⟨rfl, k0, k1, k2, k3, k4, k5, hb⟩))
                have hB2 : Below w.heap.size w w1 := (below_drewN (hB.alloc (by omega) (.cells #[.int .i64 a, .int .i64 b] 115)) 1).trans (hb.mono (by simp; omega))
                clear hm hj1 hj1' hj2 hj3 hj4 hb
                go_wp2_with fail
                go_ret
                exact ⟨ret_bool HN.out.symm, hB2⟩
          · have HN : Hid (goodM s m l = false) := goodM_no (not_ok_of hx (m := m) (.inr (.inl (by simp only; omega)))) hlt
            have dab : decide (b ≤ a) = true := by simp; omega
            clear hx
            go_wp2_with fail
            have hm := HM.out
            go_quiet ((go_at_call 72; exact quiet_left (l1In_any _ _ _ _)))
            clear hm
            go_wp2_with fail
            go_ret
            exact ⟨ret_bool HN.out.symm, below_drewN (hB.alloc (by omega) _) _⟩
        · have ib : inB b 0 m = false := by simpa [inB] using hb
          have HN : Hid (goodM s m l = false) := goodM_no (fun H => by have := H _ hx; simp only at this; omega) hlt
          clear hx
          go_wp2_with fail
          have hm := HM.out
          go_quiet ((go_at_call 72; exact quiet_left (l1In_any _ _ _ _)))
          clear hm
          go_wp2_with fail
          go_ret
          exact ⟨ret_bool HN.out.symm, below_drewN (hB.alloc (by omega) _) _⟩
      · have ia : inB a 0 m = false := by simpa [inB] using ha
        have HN : Hid (goodM s m l = false) := goodM_no (fun H => by have := H _ hx; simp only at this; omega) hlt
        clear hx
        go_wp2_with fail
        have hm := HM.out
        go_quiet ((go_at_call 72; exact quiet_left (l1In_any _ _ _ _)))
        clear hm
        go_wp2_with fail
        go_ret
        exact ⟨ret_bool HN.out.symm, below_drewN (hB.alloc (by omega) _) _⟩
    · have HN : Hid (goodM s m l = inB s 0 8) := by
        have h1 : OkTo m l l.length := by have := hok.out; rwa [show k = l.length from by omega] at this
        show _ = _
        unfold goodM inB
        refine decide_eq_decide.2 ?_
        exact ⟨fun h => h.2, fun h => ⟨h1, h⟩⟩
      go_wp2_with (go_at_call 72; refine (l1In_any _ _ _ _).mono ?_; rintro e w' ⟨rfl, rfl⟩)
      go_ret
      exact ⟨ret_bool HN.out.symm, hB⟩

theorem l2Good_any (s : Int) (v : Value) (l : List Ed) (w : World) (h : Edges w v l) (hl : l.length ≤ 1048576) (h0 : -9223372036854775808 ≤ s) (h1 : s ≤ 9223372036854775807) :
    Calls Try.prog 89 #[.agg #[.int .i64 s, v]] w fun e w' => e = .returned (.bool (goodB s l)) ∧ Below w.heap.size w w' := by
  rw [← goodM_eq (m := IntKind.i64.wrap (s - 1)) (fun h2 h3 => IntWalk.i64_in _ (by omega))]
  exact l2Good_m s _ v l w h hl rfl
end Go.Proofs.Ytpeobnmfndelhaa.good

/- The contract of neighborTest and of the function value that it returns: a map of the edges, asked at a pair. -/
namespace Go.Proofs.Ytpeobnmfndelhaa.near
open Go.RowKit Go.Maps P2 words edges


/-- an integer of 64 bits -/
def In64 (x : Int) : Prop := -9223372036854775808 ≤ x ∧ x ≤ 9223372036854775807
theorem wf64 {x : Int} (h : In64 x) : (Lit.int .i64 x).wf = true := WalkArith.wf_i64 h
end Go.Proofs.Ytpeobnmfndelhaa.near

/- The contracts of the model's l2Near and l2Node and of the program's hasNodes. -/
namespace Go.Proofs.Ytpeobnmfndelhaa.adjs
open Go.RowKit P2 words edges good near

def Hit (e : Ed) (a b : Int) : Prop := (e.1 = a ∧ e.2 = b) ∨ (e.1 = b ∧ e.2 = a)
def NoHit (l : List Ed) (a b : Int) (k : Nat) : Prop := ∀ j e, j < k → l[j]? = some e → ¬ Hit e a b
theorem adj_hit {l : List Ed} {a b : Int} {e : Ed} (h : e ∈ l) (hh : Hit e a b) : adj l a b = true := by
  unfold adj
  rw [decide_eq_true_iff]
  obtain ⟨e1, e2⟩ := e
  rcases hh with ⟨rfl, rfl⟩ | ⟨rfl, rfl⟩
  · exact .inl h
  · exact .inr h
theorem adj_nohit {l : List Ed} {a b : Int} (h : NoHit l a b l.length) : adj l a b = false := by
  unfold adj
  rw [decide_eq_false_iff_not]
  rintro (h1 | h1)
  · obtain ⟨j, hj⟩ := List.getElem?_of_mem h1
    exact h j _ (List.getElem?_eq_some_iff.1 hj).1 hj (.inl ⟨rfl, rfl⟩)
  · obtain ⟨j, hj⟩ := List.getElem?_of_mem h1
    exact h j _ (List.getElem?_eq_some_iff.1 hj).1 hj (.inr ⟨rfl, rfl⟩)
theorem NoHit.succ {l : List Ed} {a b : Int} {k : Nat} {e : Ed} (h : NoHit l a b k) (he : l[k]? = some e) (hh : ¬ Hit e a b) : NoHit l a b (k + 1) := fun j x hj hx => by
  by_cases ej : j = k
  · subst ej; rw [he] at hx; cases hx; exact hh
  · exact h j x (by omega) hx
theorem near_cases (e : Ed) (a b : Int) :
    (Hit e a b ∧ (((e.1 == a) = true ∧ (e.2 == b) = true) ∨ ((e.1 == a) = false ∧ (e.1 == b) = true ∧ (e.2 == a) = true))) ∨
    (¬ Hit e a b ∧ (((e.1 == a) = true ∧ (e.2 == b) = false ∧ (e.1 == b) = true ∧ (e.2 == a) = false) ∨ ((e.1 == a) = true ∧ (e.2 == b) = false ∧ (e.1 == b) = false) ∨
      ((e.1 == a) = false ∧ (e.1 == b) = true ∧ (e.2 == a) = false) ∨ ((e.1 == a) = false ∧ (e.1 == b) = false))) := by
  unfold Hit
  simp only [beq_iff_eq, beq_eq_false_iff_ne]
  omega

set_option maxHeartbeats 2000000 in
theorem l2Near_any (s a b : Int) (v : Value) (l : List Ed) (w : World) (h : Edges w v l) (hl : l.length ≤ 1048576) :
    Calls Try.prog 144 #[.agg #[.int .i64 s, v], .int .i64 a, .int .i64 b] w fun e w' => e = .returned (.bool (adj l a b)) ∧ Below w.heap.size w w' := by
  have hbx := Blk.new w 30 #[.int .i64 s, v]
  have hb1 : Below w.heap.size w (w.alloc (.cells #[.int .i64 s, v] 30)) := (Below.refl _ _).alloc (Nat.le_refl _) _
  obtain ⟨A, c, rfl, hc⟩ := h.form
  have HC := Lib.hid hc
  clear h hc
  go_enter Try.func144, Try.ntmps144
  go_wp2_with fail
  go_loopw [7] (fun i wr => ∃ k : Nat, k ≤ l.length ∧ i = .int .i64 (k : Int) ∧ Hid (NoHit l a b k) ∧ Blk wr w.heap.size 30 #[.int .i64 s, .slice A l.length c] ∧ Below w.heap.size w wr) (fun i _ => l.length - (intOf i).toNat)
  case atStart => exact ⟨0, Nat.zero_le _, rfl, fun j e h => by omega, hbx, hb1⟩
  case round =>
    obtain ⟨k, hk, rfl, hno, hbk, hB⟩ := hrel
    obtain ⟨p0, p1, z0, z1⟩ := hbk.two
    have hsz : w.heap.size < wr.heap.size := hbk.lt
    by_cases hlt : k < l.length
    · obtain ⟨x, hx⟩ : ∃ x, l[k]? = some x := ⟨_, List.getElem?_eq_getElem hlt⟩
      obtain ⟨g, o, rfl, c0, c1⟩ := HC.out k x hx
      have hlt' : (k : Int) < (l.length : Int) := by omega
      have q0 : wr.cell? ⟨g, o + k * 2, none⟩ = some (.int .i64 x.1) := (hB.cell (p := ⟨g, o + k * 2, none⟩) (World.block_lt_of_cell? w (a := ⟨g, o + k * 2, none⟩) c0)).trans c0
      have q1 : wr.cell? ⟨g, o + k * 2 + 1, none⟩ = some (.int .i64 x.2) := (hB.cell (p := ⟨g, o + k * 2 + 1, none⟩) (World.block_lt_of_cell? w (a := ⟨g, o + k * 2 + 1, none⟩) c1)).trans c1
      have HBK := Lib.hid hbk
      clear hbk c0 c1
      rcases near_cases x a b with ⟨hh, hcs⟩ | ⟨hh, hcs⟩
      · have HA := Lib.hid (adj_hit (List.mem_of_getElem? hx) hh)
        clear hx hh
        obtain ⟨x1, x2⟩ := x
        rcases hcs with ⟨d1, d2⟩ | ⟨d1, d2, d3⟩
        all_goals
          simp only at d1 d2
          try simp only at d3
          go_wp2_with fail
          go_ret
          exact ⟨ret_bool HA.out.symm, hB.alloc (by omega) _⟩
      · have HA := Lib.hid (hno.out.succ hx hh)
        clear hx hh
        obtain ⟨x1, x2⟩ := x
        rcases hcs with ⟨d1, d2, d3, d4⟩ | ⟨d1, d2, d3⟩ | ⟨d1, d2, d3⟩ | ⟨d1, d2⟩
        all_goals
          simp only at d1 d2
          try simp only at d3
          try simp only at d4
          go_wp2_with fail
          go_roundw
          case rel => exact ⟨k + 1, by omega, by go_num, HA, HBK.out.alloc _, hB.alloc (by omega) _⟩
          case measure => simp [intOf]; omega
    · have HA : Hid (adj l a b = false) := adj_nohit (by have := hno.out; rwa [show k = l.length from by omega] at this)
      go_wp2_with fail
      go_ret
      exact ⟨ret_bool HA.out.symm, hB⟩

theorem l2Node_any (s x : Int) (v : Value) (l : List Ed) (w : World) (h : Edges w v l) (h0 : 0 ≤ s) (h8 : s ≤ 8) :
    Calls Try.prog 110 #[.agg #[.int .i64 s, v], .int .i64 x] w fun e w' => e = .returned (.bool (inB x 0 (s - 1))) ∧ Below w.heap.size w w' := by
  obtain ⟨A, c, rfl, -⟩ := h.form
  clear h
  go_enter Try.func110, Try.ntmps110
  go_wp2_with (go_at_call 72; refine (l1In_any _ _ _ _).mono ?_; rintro e w' ⟨rfl, rfl⟩)
  go_ret
  exact ⟨rfl, (Below.refl _ _).alloc (Nat.le_refl _) _⟩

/-- the Graph is valid and has all of the nodes -/
noncomputable def nodesB (s : Int) (l : List Ed) (xs : List Int) : Bool := @decide (P2.Good s l ∧ ∀ x ∈ xs, 0 ≤ x ∧ x < s) (Classical.propDecidable _)
theorem nodesB_yes {s : Int} {l : List Ed} {xs : List Int} (h : P2.Good s l) (hx : ∀ x ∈ xs, 0 ≤ x ∧ x < s) : nodesB s l xs = true := by
  unfold nodesB; exact @decide_eq_true _ (Classical.propDecidable _) ⟨h, hx⟩
theorem nodesB_iff {s : Int} {l : List Ed} {xs : List Int} : nodesB s l xs = true ↔ P2.Good s l ∧ ∀ x ∈ xs, 0 ≤ x ∧ x < s := by
  unfold nodesB; exact @decide_eq_true_iff _ (Classical.propDecidable _)
theorem nodesB_no {s : Int} {l : List Ed} {xs : List Int} (h : ¬ (P2.Good s l ∧ ∀ x ∈ xs, 0 ≤ x ∧ x < s)) : nodesB s l xs = false := by
  unfold nodesB; exact @decide_eq_false _ (Classical.propDecidable _) h

set_option maxHeartbeats 1000000 in
theorem hasNodes_any (s : Int) (v u : Value) (l : List Ed) (xs : List Int) (w : World) (h : Edges w v l) (hl : l.length ≤ 1048576) (hu : Ints w u xs) (hxl : xs.length ≤ 1048576) :
    Calls Try.prog 116 #[.agg #[.int .i64 s, v], u] w fun e w' => e = .returned (.bool (nodesB s l xs)) ∧ Below w.heap.size w w' := by
  have hb1 : Below w.heap.size w (w.alloc (.cells #[.int .i64 s, v] 30)) := (Below.refl _ _).alloc (Nat.le_refl _) _
  have hbx := Blk.new w 30 #[.int .i64 s, v]
  have HG := Lib.hid (implIsGraph_any s v l _ (h.below hb1) hl)
  obtain ⟨A, c, rfl, -⟩ := h.form
  obtain ⟨A2, c2, rfl, hc⟩ := hu.form
  have HC := Lib.hid hc
  clear h hu hc
  by_cases hg : P2.Good s l
  · rw [goodB_yes hg] at HG
    have h0 := hg.1
    have h8 := hg.2.1
    have HGD := Lib.hid hg
    clear hg
    go_enter Try.func116, Try.ntmps116
    go_wp2_with fail
    refine HG.out.mono ?_
    rintro e w1 ⟨rfl, b1⟩
    have hB1 := btrans hb1 b1
    have hbx1 := hbx.below b1 hbx.lt
    obtain ⟨p0, p1, -, -⟩ := hbx1.two
    clear hbx hbx1 hb1 HG b1
    go_wp2_with fail
    go_loop [12] (fun i => ∃ k : Nat, k ≤ xs.length ∧ i = .int .i64 (k : Int) ∧ Hid (∀ j x, j < k → xs[j]? = some x → 0 ≤ x ∧ x < s)) (fun i => xs.length - (intOf i).toNat)
    case atStart => exact ⟨0, Nat.zero_le _, rfl, fun j e h => by omega⟩
    case round =>
      obtain ⟨k, hk, rfl, hok⟩ := hrel
      by_cases hlt : k < xs.length
      · obtain ⟨x, hx⟩ : ∃ x, xs[k]? = some x := ⟨_, List.getElem?_eq_getElem hlt⟩
        obtain ⟨g, o, rfl, c0⟩ := HC.out k x hx
        have hlt' : (k : Int) < (xs.length : Int) := by omega
        have q0 : w1.cell? ⟨g, o + k, none⟩ = some (.int .i64 x) := (hB1.cell (p := ⟨g, o + k, none⟩) (World.block_lt_of_cell? w (a := ⟨g, o + k, none⟩) c0)).trans c0
        clear c0
        by_cases hx0 : x < 0
        · have HN := Lib.hid (nodesB_no (s := s) (l := l) (xs := xs) (fun H => by have := H.2 x (List.mem_of_getElem? hx); omega))
          have d0 : decide (x < 0) = true := by simpa using hx0
          clear hx
          go_wp2_with fail
          go_ret
          exact ⟨ret_bool HN.out.symm, hB1⟩
        · have d0 : decide (x < 0) = false := by simpa using hx0
          by_cases hxs : s ≤ x
          · have HN := Lib.hid (nodesB_no (s := s) (l := l) (xs := xs) (fun H => by have := H.2 x (List.mem_of_getElem? hx); omega))
            have d1 : decide (s ≤ x) = true := by simpa using hxs
            clear hx
            go_wp2_with fail
            go_ret
            exact ⟨ret_bool HN.out.symm, hB1⟩
          · have HK : Hid (∀ j x, j < k + 1 → xs[j]? = some x → 0 ≤ x ∧ x < s) := fun j y hj hy => by
              by_cases e : j = k
              · subst e; rw [hx] at hy; cases hy; omega
              · exact hok.out j y (by omega) hy
            have d1 : decide (s ≤ x) = false := by simpa using hxs
            clear hx
            go_wp2_with fail
            go_round
            case rel => exact ⟨k + 1, by omega, by go_num, HK⟩
            case measure => simp [intOf]; omega
      · have HN := Lib.hid (nodesB_yes (s := s) (l := l) (xs := xs) HGD.out (fun x hx => by
          obtain ⟨j, hj⟩ := List.getElem?_of_mem hx
          exact hok.out j x (by have := (List.getElem?_eq_some_iff.1 hj).1; omega) hj))
        go_wp2_with fail
        go_ret
        exact ⟨ret_bool HN.out.symm, hB1⟩
  · rw [goodB_no hg] at HG
    rw [nodesB_no (fun H => hg H.1)]
    clear hg
    go_enter Try.func116, Try.ntmps116
    go_wp2_with fail
    refine HG.out.mono ?_
    rintro e w1 ⟨rfl, b1⟩
    go_wp2_with fail
    go_ret
    exact ⟨rfl, btrans hb1 b1⟩
end Go.Proofs.Ytpeobnmfndelhaa.adjs

/- A Graph in the making: the variable that holds it, the row of its edges, the result's variable. -/
namespace Go.Proofs.Ytpeobnmfndelhaa.mids
open Go.RowKit P2 words edges

theorem own_ne {w : World} {B : Nat} {t t' : TypeId} {size n : Nat} {v : Value} {xs : List Value} {O : Nat} {cs : Array Value} (h : w.ownsRow B t size v n xs) (hb : Blk w O t' cs) (ht : t ≠ t') : v.ownBlock ≠ some O := by
  intro e
  rcases h.2 with ⟨rfl, _⟩ | ⟨g, cap, cur, rfl, _, hg, _⟩
  · simp [Value.ownBlock] at e
  · simp [Value.ownBlock] at e
    subst e
    unfold Blk at hb
    rw [hg] at hb
    simp at hb
    exact ht hb.2
theorem grown_blk {w w' : World} {B : Nat} {t t' : TypeId} {size n : Nat} {v : Value} {xs : List Value} {O : Nat} {cs : Array Value} {o : Obj} (h : w.ownsRow B t size v n xs) (hb : Blk w O t' cs) (ht : t ≠ t') (hg : (w.alloc o).grownBy w' v.ownBlock) : Blk w' O t' cs :=
  (hb.alloc o).grown hg (fun e => own_ne h hb ht e.symm)

/-- block O holds the Graph in the making, block R is the result's variable -/
def Mid (w wr : World) (R O : Nat) (n : Int) (l : List Ed) : Prop :=
  ∃ A c, Blk wr O 30 #[.int .i64 n, .slice A l.length c] ∧ wr.ownsRow w.heap.size 115 2 (.slice A l.length c) l.length (cellsE l) ∧
    Blk wr R 30 #[.int .i64 0, .slice none 0 0] ∧ Below w.heap.size w wr ∧ w.heap.size ≤ R ∧ w.heap.size ≤ O ∧ R ≠ O
theorem Mid.call {w wr w1 : World} {R O : Nat} {n : Int} {l : List Ed} (h : Mid w wr R O n l) (hb : Below wr.heap.size wr w1) : Mid w w1 R O n l := by
  obtain ⟨A, c, h1, h2, h3, h4, h5⟩ := h
  exact ⟨A, c, h1.below hb h1.lt, own_below h2 hb, h3.below hb h3.lt, h4.trans (hb.mono h4.size), h5⟩
theorem tne : (115 : TypeId) ≠ 30 := by decide
theorem Mid.push {w w1 w2 : World} {R O m : Nat} {n : Int} {l : List Ed} {a b : Int} {A : Option Addr} {c : Nat} {o : Obj} {v : Value}
    (hO : Blk w1 O 30 #[.int .i64 n, .slice A l.length c]) (hr : w1.ownsRow w.heap.size 115 2 (.slice A l.length c) l.length (cellsE l))
    (hR : Blk w1 R 30 #[.int .i64 0, .slice none 0 0]) (hb : Below w.heap.size w w1) (h5 : w.heap.size ≤ R ∧ w.heap.size ≤ O ∧ R ≠ O)
    (hown : w2.ownsRow w.heap.size 115 2 v (l.length + m) (cellsE l ++ [.int .i64 a, .int .i64 b])) (hm : m = 1) (hg : (w1.alloc o).grownBy w2 (Value.slice A l.length c).ownBlock) :
    ∃ A' c', v = .slice A' (l.length + 1) c' ∧ Mid w (w2.setCell ⟨O, 1, none⟩ (.slice A' (l.length + 1) c')) R O n (l ++ [(a, b)]) ∧ Blk w2 O 30 #[.int .i64 n, .slice A l.length c] := by
  subst hm
  obtain ⟨A', c', rfl⟩ := own_form hown
  have hlen : (l ++ [(a, b)]).length = l.length + 1 := by simp
  have hO2 := grown_blk hr hO tne hg
  have hR2 := grown_blk hr hR tne hg
  have hne := own_ne hown hO2 tne
  refine ⟨A', c', rfl, ⟨A', c', ?_, ?_, hR2.far h5.2.2 _, ?_, h5⟩, hO2⟩
  · rw [hlen]
    have := hO2.set_ 1 (.slice A' (l.length + 1) c')
    simpa using this
  · rw [hlen, cellsE_app]
    refine hown.kept (row := some O) ⟨rfl, rfl, rfl, by simp [World.setCell], fun k _ hk => Below.heap_setCell _ _ _ _ (fun e => hk (by simp [e]))⟩ (.inr hne)
  · exact ((hb.alloc (by have := hb.size; omega) o).grown hg (by have := hb.size; simp; omega) (fun k hk => (hr.lt k hk).1)).setCell h5.2.1 _
/-- other variables stay -/
theorem push_blk {w1 w2 : World} {B O X n : Nat} {t : TypeId} {v : Value} {xs : List Value} {cs : Array Value} {o : Obj} {u : Value} (hr : w1.ownsRow B 115 2 v n xs) (hX : Blk w1 X t cs) (ht : 115 ≠ t)
    (hg : (w1.alloc o).grownBy w2 v.ownBlock) (hne : X ≠ O) : Blk (w2.setCell ⟨O, 1, none⟩ u) X t cs :=
  (grown_blk hr hX ht hg).far hne _
/-- the end: the Graph is stored into the result's variable -/
theorem Mid.done {w wr : World} {R : Nat} {n : Int} {l : List Ed} {A : Option Addr} {c : Nat} (hr : wr.ownsRow w.heap.size 115 2 (.slice A l.length c) l.length (cellsE l))
    (hR : Blk wr R 30 #[.int .i64 0, .slice none 0 0]) (hb : Below w.heap.size w wr) (h5 : w.heap.size ≤ R) :
    ((wr.setCell ⟨R, 0, none⟩ (.int .i64 n)).setCell ⟨R, 1, none⟩ (.slice A l.length c)).ownsRow w.heap.size 115 2 (.slice A l.length c) l.length (cellsE l) ∧
      Below w.heap.size w ((wr.setCell ⟨R, 0, none⟩ (.int .i64 n)).setCell ⟨R, 1, none⟩ (.slice A l.length c)) := by
  have hk : ∀ (W : World) (j : Nat) (u : Value), W.grownBy (W.setCell ⟨R, j, none⟩ u) (some R) := fun W j u => ⟨rfl, rfl, rfl, by simp [World.setCell], fun k _ hk => Below.heap_setCell _ _ _ _ (fun e => hk (by simp [e]))⟩
  have hne := own_ne hr hR tne
  exact ⟨(hr.kept (hk _ _ _) (.inr hne)).kept (hk _ _ _) (.inr hne), (hb.setCell h5 _).setCell h5 _⟩
/-- the start: an empty row, the Graph in the making -/
theorem mid_new {w w1 : World} {R : Nat} (n : Int) (hR : Blk w1 R 30 #[.int .i64 0, .slice none 0 0]) (e1 : Below w.heap.size w w1) (h : w.heap.size ≤ R) :
    Mid w ((w1.alloc (.cells #[] 115)).alloc (.cells #[.int .i64 n, .slice (some ⟨w1.heap.size, 0, none⟩) 0 0] 30)) R (w1.heap.size + 1) n [] := by
  have hs := e1.size
  have hlt := hR.lt
  refine ⟨some ⟨w1.heap.size, 0, none⟩, 0, ?_, ?_, (hR.alloc _).alloc _, ?_, h, by omega, by omega⟩
  · simpa using Blk.new (w1.alloc (.cells #[] 115)) 30 #[.int .i64 n, .slice (some ⟨w1.heap.size, 0, none⟩) 0 0]
  · have := (World.ownsRow_lit (base := w1.heap.size) (e := 115) (size := 2) w1 #[] 0 (Nat.le_refl _) (Nat.zero_le _) (by simp)).alloc (.cells #[.int .i64 n, .slice (some ⟨w1.heap.size, 0, none⟩) 0 0] 30)
    exact own_base this hs
  · exact (e1.alloc hs _).alloc (by simp; omega) _
end Go.Proofs.Ytpeobnmfndelhaa.mids

/- The contract of graphWhere: the Graph of the edges that a function value allows. -/
namespace Go.Proofs.Ytpeobnmfndelhaa.gws
open Go.RowKit P2 words edges fns

/-- what graphWhere holds of its Graph in the midst: its block, its edges -/
def Mid (w wr : World) (n : Nat) (l : List Ed) : Prop :=
  ∃ A c, Blk wr (w.heap.size + 1) 30 #[.int .i64 (n : Int), .slice A l.length c] ∧ wr.ownsRow (w.heap.size + 2) 115 2 (.slice A l.length c) l.length (cellsE l) ∧
    Blk wr w.heap.size 30 #[.int .i64 0, .slice none 0 0] ∧ Below w.heap.size w wr
theorem Mid.call {w wr w1 : World} {n : Nat} {l : List Ed} (h : Mid w wr n l) (hb : Below wr.heap.size wr w1) : Mid w w1 n l := by
  obtain ⟨A, c, h1, h2, h3, h4⟩ := h
  exact ⟨A, c, h1.below hb h1.lt, own_below h2 hb, h3.below hb h3.lt, h4.trans (hb.mono h4.size)⟩
theorem Mid.push {w w1 w2 : World} {n m : Nat} {l : List Ed} {e : Ed} {A : Option Addr} {c : Nat} {o : Obj} {v : Value}
    (hB1 : Blk w1 (w.heap.size + 1) 30 #[.int .i64 (n : Int), .slice A l.length c]) (hr : w1.ownsRow (w.heap.size + 2) 115 2 (.slice A l.length c) l.length (cellsE l))
    (hR : Blk w1 w.heap.size 30 #[.int .i64 0, .slice none 0 0]) (hb : Below w.heap.size w w1)
    (hown : w2.ownsRow (w.heap.size + 2) 115 2 v (l.length + m) (cellsE (l ++ [e]))) (hm : m = 1) (hg : (w1.alloc o).grownBy w2 (Value.slice A l.length c).ownBlock) :
    ∃ A' c', v = .slice A' (l ++ [e]).length c' ∧ Mid w (w2.setCell ⟨w.heap.size + 1, 1, none⟩ (.slice A' (l ++ [e]).length c')) n (l ++ [e]) ∧ Blk w2 (w.heap.size + 1) 30 #[.int .i64 (n : Int), .slice A l.length c] := by
  subst hm
  obtain ⟨A', c', rfl⟩ := own_form hown
  have hlen : (l ++ [e]).length = l.length + 1 := by simp
  rw [← hlen] at hown ⊢
  have hne : ∀ k, (Value.slice A l.length c).ownBlock = some k → w.heap.size + 2 ≤ k := fun k hk => (hr.lt k hk).1
  have hs1 : w.heap.size + 1 < w1.heap.size := hB1.lt
  have hblk : Blk w2 (w.heap.size + 1) 30 #[.int .i64 (n : Int), .slice A l.length c] := (hB1.alloc o).grown hg (fun hh => by have := hne _ hh.symm; omega)
  have hblk0 : Blk w2 w.heap.size 30 #[.int .i64 0, .slice none 0 0] := (hR.alloc o).grown hg (fun hh => by have := hne _ hh.symm; omega)
  refine ⟨A', c', rfl, ⟨A', c', ?_, ownsRow_setCell_below hown (by simp) _, hblk0.far (by simp) _, ?_⟩, hblk⟩
  · have := hblk.set_ 1 (.slice A' (l ++ [e]).length c')
    simpa using this
  · exact ((hb.alloc (by omega) o).grown hg (by simp; omega) (fun k hk => by have := hne k hk; omega)).setCell (by simp) _

end Go.Proofs.Ytpeobnmfndelhaa.gws
