/- Whether a Graph is valid: the contracts of the program's IsGraph and of the model's l2Good, and of what they call. -/
import Derived.Test.YthgahkkjdpljjaaDoorEdges
import Derived.Deep.RegionWith
namespace Go.Proofs.YthgahkkjdpljjaaDoor.good
open Go.RowKit P2 words edges

theorem quiet_left {P : Program} {f : FuncId} {args : Array Value} {w : World} {n : Nat} {v : Value}
    (h : Calls P f args (w.drewN n) fun e w' => e = .returned v ∧ w.drewN n = w') : Calls P f args (w.drewN n) fun e w'' => e = .returned v ∧ ∃ m, w'' = w.drewN m :=
  h.mono fun _ _ ⟨he, hm⟩ => ⟨he, n, hm.symm⟩

theorem l1In_yes (x a b : Int) (w : World) (h1 : a ≤ x) (h2 : x ≤ b) :
    Calls Tryd.prog 22 #[.int .i64 x, .int .i64 a, .int .i64 b] w fun e w' => e = .returned (.bool true) ∧ w = w' := by
  go_enter Tryd.func22, Tryd.ntmps22
  go_wp2_with fail
  go_ret
  exact ⟨rfl, rfl⟩
theorem l1In_no (x a b : Int) (w : World) (h : x < a ∨ b < x) :
    Calls Tryd.prog 22 #[.int .i64 x, .int .i64 a, .int .i64 b] w fun e w' => e = .returned (.bool false) ∧ w = w' := by
  by_cases h1 : a ≤ x
  · have h2 : ¬ x ≤ b := by omega
    have d2 : decide (x ≤ b) = false := by simpa using h2
    clear h
    go_enter Tryd.func22, Tryd.ntmps22
    go_wp2_with fail
    go_ret
    exact ⟨rfl, rfl⟩
  · have d1 : decide (a ≤ x) = false := by simpa using h1
    clear h
    go_enter Tryd.func22, Tryd.ntmps22
    go_wp2_with fail
    go_ret
    exact ⟨rfl, rfl⟩
def inB (x a b : Int) : Bool := decide (a ≤ x ∧ x ≤ b)
theorem l1In_any (x a b : Int) (w : World) :
    Calls Tryd.prog 22 #[.int .i64 x, .int .i64 a, .int .i64 b] w fun e w' => e = .returned (.bool (inB x a b)) ∧ w = w' := by
  by_cases h : a ≤ x ∧ x ≤ b
  · have : inB x a b = true := by simp [inB, h]
    rw [this]; exact l1In_yes x a b w h.1 h.2
  · have : inB x a b = false := by simp only [inB, decide_eq_false_iff_not]; exact h
    rw [this]; exact l1In_no x a b w (by omega)

def lexB (a b : Ed) : Bool := decide (Lex a b)
theorem l2Before_any (a b c d : Int) (w : World) :
    Calls Tryd.prog 23 #[.agg #[.int .i64 a, .int .i64 b], .agg #[.int .i64 c, .int .i64 d]] w fun e w' => e = .returned (.bool (lexB (a, b) (c, d))) ∧ Below w.heap.size w w' := by
  have hL : lexB (a, b) (c, d) = decide (a < c ∨ (a = c ∧ b < d)) := rfl
  have hB : Below w.heap.size w ((w.alloc (.cells #[.int .i64 a, .int .i64 b] 48)).alloc (.cells #[.int .i64 c, .int .i64 d] 48)) := ((Below.refl _ _).alloc (Nat.le_refl _) _).alloc (by simp) _
  have HB := Lib.hid hB
  clear hB
  rcases Int.lt_trichotomy a c with h | h | h
  · rw [show lexB (a, b) (c, d) = true from by rw [hL]; simp [h]]
    have d1 : decide (a < c) = true := by simpa using h
    clear hL
    go_enter Tryd.func23, Tryd.ntmps23
    go_wp2_with fail
    go_ret
    exact ⟨rfl, HB.out⟩
  · subst h
    have d1 : decide (a < a) = false := by simp
    have d2 : (a == a) = true := by simp
    rcases (show b < d ∨ d ≤ b from by omega) with h | h
    · rw [show lexB (a, b) (a, d) = true from by rw [hL]; simp [h]]
      have d3 : decide (b < d) = true := by simpa using h
      clear hL
      go_enter Tryd.func23, Tryd.ntmps23
      go_wp2_with fail
      go_ret
      exact ⟨rfl, HB.out⟩
    · rw [show lexB (a, b) (a, d) = false from by rw [hL]; simp; omega]
      have d3 : decide (b < d) = false := by simp; omega
      clear hL
      go_enter Tryd.func23, Tryd.ntmps23
      go_wp2_with fail
      go_ret
      exact ⟨rfl, HB.out⟩
  · rw [show lexB (a, b) (c, d) = false from by rw [hL]; simp; omega]
    have d1 : decide (a < c) = false := by simp; omega
    have d2 : (a == c) = false := by simp; omega
    clear hL
    go_enter Tryd.func23, Tryd.ntmps23
    go_wp2_with fail
    go_ret
    exact ⟨rfl, HB.out⟩

def cmpI (a b : Int) : Int := if a < b then -1 else if b < a then 1 else 0
theorem compare_any (a b : Int) (w : World) :
    Calls Tryd.prog 48 #[.int .i64 a, .int .i64 b] w fun e w' => e = .returned (.int .i64 (cmpI a b)) ∧ w = w' := by
  have ha : (a != a) = false := by simp
  have hb : (b != b) = false := by simp
  rcases Int.lt_trichotomy a b with h | h | h
  · rw [show cmpI a b = -1 from by unfold cmpI; rw [if_pos h]]
    go_enter Tryd.func48, Tryd.ntmps48
    go_wp2
    go_ret
    exact ⟨rfl, rfl⟩
  · rw [show cmpI a b = 0 from by unfold cmpI; rw [if_neg (by omega), if_neg (by omega)]]
    go_enter Tryd.func48, Tryd.ntmps48
    go_wp2
    go_ret
    exact ⟨rfl, rfl⟩
  · rw [show cmpI a b = 1 from by unfold cmpI; rw [if_neg (by omega), if_pos h]]
    go_enter Tryd.func48, Tryd.ntmps48
    go_wp2
    go_ret
    exact ⟨rfl, rfl⟩
def cmpE (a b : Ed) : Int := if cmpI a.1 b.1 = 0 then cmpI a.2 b.2 else cmpI a.1 b.1
theorem cmpE_lex {a b : Ed} (h : Lex a b) : cmpE a b = -1 := by
  unfold Lex at h; unfold cmpE cmpI
  split <;> split at * <;> (try split at *) <;> (try split) <;> omega
theorem cmpE_not {a b : Ed} (h : ¬ Lex a b) : 0 ≤ cmpE a b := by
  unfold Lex at h; unfold cmpE cmpI
  split <;> split at * <;> (try split at *) <;> (try split) <;> omega
theorem compare2_any (g1 o1 c1 g2 o2 c2 : Nat) (a b : Ed) (w : World) (h0 : w.cell? ⟨g1, o1, none⟩ = some (.int .i64 a.1)) (h1 : w.cell? ⟨g1, o1 + 1, none⟩ = some (.int .i64 a.2))
    (k0 : w.cell? ⟨g2, o2, none⟩ = some (.int .i64 b.1)) (k1 : w.cell? ⟨g2, o2 + 1, none⟩ = some (.int .i64 b.2)) :
    Calls Tryd.prog 34 #[.slice (some ⟨g1, o1, none⟩) 2 c1, .slice (some ⟨g2, o2, none⟩) 2 c2] w fun e w' => e = .returned (.int .i64 (cmpE a b)) ∧ w = w' := by
  obtain ⟨a1, a2⟩ := a
  obtain ⟨b1, b2⟩ := b
  obtain ⟨r1, hr1⟩ : ∃ r, cmpI a1 b1 = r := ⟨_, rfl⟩
  obtain ⟨r2, hr2⟩ : ∃ r, cmpI a2 b2 = r := ⟨_, rfl⟩
  have C1 := fun W => compare_any a1 b1 W
  have C2 := fun W => compare_any a2 b2 W
  unfold cmpE
  simp only at h0 h1 k0 k1 ⊢
  rw [hr1] at C1 ⊢
  rw [hr2] at C2 ⊢
  have D1 := Lib.hid C1
  have D2 := Lib.hid C2
  clear C1 C2 hr1 hr2
  by_cases hz : r1 = 0
  · rw [if_pos hz]
    subst hz
    by_cases hy : r2 = 0
    · subst hy
      go_enter Tryd.func34, Tryd.ntmps34
      go_wp2_with fail
      refine wp_loop_rounds 3 ?_
      rw [rounds_succ]
      go_wp2_with (go_at_call 48; refine (D1.out _).mono ?_; rintro e w' ⟨rfl, rfl⟩)
      rw [rounds_succ]
      go_wp2_with (go_at_call 48; refine (D2.out _).mono ?_; rintro e w' ⟨rfl, rfl⟩)
      rw [rounds_succ]
      go_wp2_with fail
      go_ret
      exact ⟨rfl, rfl⟩
    · have d2 : (r2 != 0) = true := by simpa using hy
      go_enter Tryd.func34, Tryd.ntmps34
      go_wp2_with fail
      refine wp_loop_rounds 3 ?_
      rw [rounds_succ]
      go_wp2_with (go_at_call 48; refine (D1.out _).mono ?_; rintro e w' ⟨rfl, rfl⟩)
      rw [rounds_succ]
      go_wp2_with (go_at_call 48; refine (D2.out _).mono ?_; rintro e w' ⟨rfl, rfl⟩)
      go_ret
      exact ⟨rfl, rfl⟩
  · rw [if_neg hz]
    have d2 : (r1 != 0) = true := by simpa using hz
    go_enter Tryd.func34, Tryd.ntmps34
    go_wp2_with fail
    refine wp_loop_rounds 3 ?_
    rw [rounds_succ]
    go_wp2_with (go_at_call 48; refine (D1.out _).mono ?_; rintro e w' ⟨rfl, rfl⟩)
    go_ret
    exact ⟨rfl, rfl⟩

theorem ok_of {m : Int} {l : List Ed} {k : Nat} {e : Ed} (he : l[k]? = some e) (h1 : 0 ≤ e.1) (h2 : e.1 < e.2) (h3 : e.2 ≤ m) (h4 : ∀ d, 0 < k → l[k - 1]? = some d → Lex d e) : OkAt m l k := fun e' he' => by
  rw [he] at he'; cases he'; exact ⟨h1, h2, h3, h4⟩
theorem not_ok_of {m : Int} {l : List Ed} {k : Nat} {e : Ed} (he : l[k]? = some e) (h : e.1 < 0 ∨ e.2 ≤ e.1 ∨ m < e.2) : ¬ OkAt m l k := fun H => by
  have := H e he; omega
theorem not_ok_lex {m : Int} {l : List Ed} {k : Nat} {d e : Ed} (he : l[k]? = some e) (hk : 0 < k) (hd : l[k - 1]? = some d) (h : ¬ Lex d e) : ¬ OkAt m l k := fun H => h ((H e he).2.2.2 d hk hd)

set_option maxHeartbeats 1000000 in
theorem implIsGraph_no (s : Int) (v : Value) (l : List Ed) (w : World) (h : Edges w v l) (hs : s < 0 ∨ 8 < s) :
    Calls Tryd.prog 19 #[.agg #[.int .i64 s, v]] w fun e w' => e = .returned (.bool false) ∧ Below w.heap.size w w' := by
  obtain ⟨A, c, rfl, -⟩ := h.form
  clear h
  by_cases h0 : s < 0
  · have d0 : decide (s < 0) = true := by simpa using h0
    clear hs
    go_enter Tryd.func19, Tryd.ntmps19
    go_wp2_with fail
    go_ret
    exact ⟨rfl, (Below.refl _ _).alloc (Nat.le_refl _) _⟩
  · have d0 : decide (s < 0) = false := by simpa using h0
    have d1 : decide (8 < s) = true := by simp; omega
    clear hs
    go_enter Tryd.func19, Tryd.ntmps19
    go_wp2_with fail
    go_ret
    exact ⟨rfl, (Below.refl _ _).alloc (Nat.le_refl _) _⟩

set_option maxHeartbeats 1000000 in
theorem implIsGraph_in (s : Int) (v : Value) (l : List Ed) (w : World) (h : Edges w v l) (h0 : 0 ≤ s) (h8 : s ≤ 8) (hl : l.length ≤ 1048576) :
    Calls Tryd.prog 19 #[.agg #[.int .i64 s, v]] w fun e w' => e = .returned (.bool (goodB s l)) ∧ Below w.heap.size w w' := by
  have hbx := Blk.new w 30 #[.int .i64 s, v]
  have hb1 : Below w.heap.size w (w.alloc (.cells #[.int .i64 s, v] 30)) := (Below.refl _ _).alloc (Nat.le_refl _) _
  obtain ⟨A, c, rfl, hc⟩ := h.form
  have HC := Lib.hid hc
  have d0 : decide (s < 0) = false := by simpa using h0
  have d1 : decide (8 < s) = false := by simpa using h8
  clear h hc
  go_enter Tryd.func19, Tryd.ntmps19
  go_wp2_with fail
  go_loopw [16] (fun i wr => ∃ k : Nat, k ≤ l.length ∧ i = .int .i64 (k : Int) ∧ Hid (OkTo (s - 1) l k) ∧ Blk wr w.heap.size 30 #[.int .i64 s, .slice A l.length c] ∧ Below w.heap.size w wr) (fun i _ => l.length - (intOf i).toNat)
  case atStart => exact ⟨0, Nat.zero_le _, rfl, OkTo.zero _ _, hbx, hb1⟩
  case round =>
    obtain ⟨k, hk, rfl, hok, hbk, hB⟩ := hrel
    by_cases hlt : k < l.length
    · obtain ⟨x, hx⟩ : ∃ x, l[k]? = some x := ⟨_, List.getElem?_eq_getElem hlt⟩
      obtain ⟨g, o, rfl, c0, c1⟩ := HC.out k x hx
      have hlt' : (k : Int) < (l.length : Int) := by omega
      have q0 : wr.cell? ⟨g, o + k * 2, none⟩ = some (.int .i64 x.1) := (hB.cell (p := ⟨g, o + k * 2, none⟩) (World.block_lt_of_cell? w (a := ⟨g, o + k * 2, none⟩) c0)).trans c0
      have q1 : wr.cell? ⟨g, o + k * 2 + 1, none⟩ = some (.int .i64 x.2) := (hB.cell (p := ⟨g, o + k * 2 + 1, none⟩) (World.block_lt_of_cell? w (a := ⟨g, o + k * 2 + 1, none⟩) c1)).trans c1
      obtain ⟨p0, p1, z0, z1⟩ := hbk.two
      have hsz : w.heap.size < wr.heap.size := hbk.lt
      obtain ⟨a, b⟩ := x
      have HBK := Lib.hid hbk
      clear hbk c0 c1
      by_cases ha : 0 ≤ a
      · by_cases hab : a < b
        · by_cases hbs : b < s
          · by_cases hk0 : k = 0
            · have dk : decide (0 < k) = false := by simp; omega
              have dk' : decide ((0 : Int) < (k : Int)) = false := by simp; omega
              have HOK := Lib.hid (hok.out.succ (ok_of hx ha hab (by simp only; omega) (fun d h => by omega)))
              clear hx hk0
              go_wp2_with fail
              go_quiet (fail)
              go_wp2_with fail
              go_roundw
              case rel => exact ⟨k + 1, by omega, by go_num, HOK, (HBK.out.alloc _).drewN _, below_drewN (hB.alloc (by omega) _) _⟩
              case measure => simp [intOf]; omega
            · obtain ⟨j, rfl⟩ : ∃ j, k = j + 1 := ⟨k - 1, by omega⟩
              obtain ⟨y, hy⟩ : ∃ y, l[j]? = some y := ⟨_, List.getElem?_eq_getElem (by omega)⟩
              obtain ⟨g', o', e', c2, c3⟩ := HC.out j y hy
              obtain ⟨rfl, rfl⟩ : g = g' ∧ o = o' := by simpa using e'
              have q2 : wr.cell? ⟨g, o + j * 2, none⟩ = some (.int .i64 y.1) := (hB.cell (p := ⟨g, o + j * 2, none⟩) (World.block_lt_of_cell? w (a := ⟨g, o + j * 2, none⟩) c2)).trans c2
              have q3 : wr.cell? ⟨g, o + j * 2 + 1, none⟩ = some (.int .i64 y.2) := (hB.cell (p := ⟨g, o + j * 2 + 1, none⟩) (World.block_lt_of_cell? w (a := ⟨g, o + j * 2 + 1, none⟩) c3)).trans c3
              have hg : g < wr.heap.size := World.block_lt_of_cell? wr (a := ⟨g, o + j * 2, none⟩) q2
              have HW : Hid (∀ n, Calls Tryd.prog 34 #[.slice (some ⟨g, o + j * 2, none⟩) 2 2, .slice (some ⟨wr.heap.size, 0, none⟩) 2 2] ((wr.alloc (.cells #[.int .i64 a, .int .i64 b] 48)).drewN n) fun e w' => e = .returned (.int .i64 (cmpE y (a, b))) ∧ (wr.alloc (.cells #[.int .i64 a, .int .i64 b] 48)).drewN n = w') := fun n =>
                compare2_any g (o + j * 2) 2 wr.heap.size 0 2 y (a, b) _ ((World.cell?_alloc_lt wr _ _ hg).trans q2) ((World.cell?_alloc_lt wr _ _ hg).trans q3) ((Blk.new wr _ #[.int .i64 a, .int .i64 b]).cell 0) ((Blk.new wr _ #[.int .i64 a, .int .i64 b]).cell 1)
              clear c2 c3 e' q2 q3 hg
              by_cases hL : Lex y (a, b)
              · have HOK := Lib.hid (hok.out.succ (ok_of hx ha hab (by simp only; omega) (fun d _ hd => by
                  rw [Nat.add_sub_cancel] at hd; rw [hy] at hd; cases hd; exact hL)))
                rw [cmpE_lex hL] at HW
                clear hx hy hL
                go_wp2_with fail
                go_quiet ((go_at_call 34; exact quiet_left (HW.out _)))
                go_wp2_with fail
                go_roundw
                case rel => exact ⟨j + 1 + 1, by omega, by go_num, HOK, (HBK.out.alloc _).drewN _, below_drewN (hB.alloc (by omega) _) _⟩
                case measure => simp [intOf]; omega
              · have HN := Lib.hid (goodB_no (s := s) (not_good_at hlt (not_ok_lex hx (m := s - 1) (by omega) (by rw [Nat.add_sub_cancel]; exact hy) hL)))
                have hr := cmpE_not hL
                obtain ⟨r, hr2⟩ : ∃ r, cmpE y (a, b) = r := ⟨_, rfl⟩
                rw [hr2] at HW hr
                clear hx hy hL hr2
                go_wp2_with fail
                go_quiet ((go_at_call 34; exact quiet_left (HW.out _)))
                go_wp2_with fail
                go_ret
                exact ⟨ret_bool HN.out.symm, below_drewN (hB.alloc (by omega) _) _⟩
          · have HN := Lib.hid (goodB_no (s := s) (not_good_at hlt (not_ok_of hx (m := s - 1) (.inr (.inr (by simp only; omega))))))
            have db : decide (s ≤ b) = true := by simp; omega
            clear hx
            go_wp2_with fail
            go_ret
            exact ⟨ret_bool HN.out.symm, hB.alloc (by omega) _⟩
        · have HN := Lib.hid (goodB_no (s := s) (not_good_at hlt (not_ok_of hx (m := s - 1) (.inr (.inl (by simp only; omega))))))
          have db : decide (b ≤ a) = true := by simp; omega
          clear hx
          go_wp2_with fail
          go_ret
          exact ⟨ret_bool HN.out.symm, hB.alloc (by omega) _⟩
      · have HN := Lib.hid (goodB_no (s := s) (not_good_at hlt (not_ok_of hx (m := s - 1) (.inl (by simp only; omega)))))
        have da : decide (a < 0) = true := by simp; omega
        clear hx
        go_wp2_with fail
        go_ret
        exact ⟨ret_bool HN.out.symm, hB.alloc (by omega) _⟩
    · have HN := Lib.hid (goodB_yes (s := s) (l := l) ⟨h0, h8, by have := hok.out; rwa [show k = l.length from by omega] at this⟩)
      go_wp2_with fail
      go_ret
      exact ⟨ret_bool HN.out.symm, hB⟩
end Go.Proofs.YthgahkkjdpljjaaDoor.good
