/- Whether a Graph is valid: the contract of the model's l2Good, for every Graph; and that of the program's IsGraph put together. -/
import Derived.Test.YthgahkkjdpljjaaDoorGood
namespace Go.Proofs.YthgahkkjdpljjaaDoor.good
open Go.RowKit P2 words edges

theorem implIsGraph_any (s : Int) (v : Value) (l : List Ed) (w : World) (h : Edges w v l) (hl : l.length ≤ 1048576) :
    Calls Tryd.prog 19 #[.agg #[.int .i64 s, v]] w fun e w' => e = .returned (.bool (goodB s l)) ∧ Below w.heap.size w w' := by
  by_cases h0 : 0 ≤ s ∧ s ≤ 8
  · exact implIsGraph_in s v l w h h0.1 h0.2 hl
  · rw [goodB_no (fun g => h0 ⟨g.1, g.2.1⟩)]
    exact implIsGraph_no s v l w h (by omega)

theorem keep6 {P : Program} {f : FuncId} {args : Array Value} {W : World} {R : Ending → Prop} {p q r s t u : Addr} {a b c d x y : Value}
    (h : Calls P f args W fun e w' => R e ∧ Below W.heap.size W w') (hp : W.cell? p = some a) (hq : W.cell? q = some b) (hr : W.cell? r = some c) (hs : W.cell? s = some d) (ht : W.cell? t = some x) (hu : W.cell? u = some y) :
    Calls P f args W fun e w' => R e ∧ w'.cell? p = some a ∧ w'.cell? q = some b ∧ w'.cell? r = some c ∧ w'.cell? s = some d ∧ w'.cell? t = some x ∧ w'.cell? u = some y ∧ Below W.heap.size W w' :=
  h.mono fun _ _ ⟨he, hb⟩ => ⟨he, (hb.cell (World.block_lt_of_cell? W _ hp)).trans hp, (hb.cell (World.block_lt_of_cell? W _ hq)).trans hq, (hb.cell (World.block_lt_of_cell? W _ hr)).trans hr, (hb.cell (World.block_lt_of_cell? W _ hs)).trans hs,
    (hb.cell (World.block_lt_of_cell? W _ ht)).trans ht, (hb.cell (World.block_lt_of_cell? W _ hu)).trans hu, hb⟩

noncomputable def goodM (s m : Int) (l : List Ed) : Bool := @decide (OkTo m l l.length ∧ 0 ≤ s ∧ s ≤ 8) (Classical.propDecidable _)
theorem goodM_no {s m : Int} {l : List Ed} {k : Nat} (h : ¬ OkAt m l k) (hk : k < l.length) : goodM s m l = false := by
  unfold goodM
  exact @decide_eq_false _ (Classical.propDecidable _) (fun H => h (H.1 k hk))
theorem goodM_eq {s m : Int} {l : List Ed} (h : 0 ≤ s → s ≤ 8 → m = s - 1) : goodM s m l = goodB s l := by
  unfold goodM goodB
  refine decide_eq_decide.2 ?_
  show _ ↔ (_ ∧ _)
  constructor
  · rintro ⟨h1, h2, h3⟩; rw [h h2 h3] at h1; exact ⟨h2, h3, h1⟩
  · rintro ⟨h2, h3, h1⟩; rw [h h2 h3]; exact ⟨h1, h2, h3⟩
set_option maxHeartbeats 1000000 in
set_option maxRecDepth 100000 in
theorem l2Good_m (s m : Int) (v : Value) (l : List Ed) (w : World) (h : Edges w v l) (hl : l.length ≤ 1048576) (hm : IntKind.i64.wrap (s - 1) = m) :
    Calls Tryd.prog 14 #[.agg #[.int .i64 s, v]] w fun e w' => e = .returned (.bool (goodM s m l)) ∧ Below w.heap.size w w' := by
  have hbx := Blk.new w 30 #[.int .i64 s, v]
  have hb1 : Below w.heap.size w (w.alloc (.cells #[.int .i64 s, v] 30)) := (Below.refl _ _).alloc (Nat.le_refl _) _
  obtain ⟨A, c, rfl, hc⟩ := h.form
  have HC := Lib.hid hc
  have HM := Lib.hid hm
  clear h hc hm
  go_enter Tryd.func14, Tryd.ntmps14
  go_wp2_with fail
  go_loopw [3] (fun i wr => ∃ k : Nat, k ≤ l.length ∧ i = .int .i64 (k : Int) ∧ Hid (OkTo m l k) ∧ Blk wr w.heap.size 30 #[.int .i64 s, .slice A l.length c] ∧ Below w.heap.size w wr) (fun i _ => l.length - (intOf i).toNat)
  case atStart => exact ⟨0, Nat.zero_le _, rfl, OkTo.zero _ _, hbx, hb1⟩
  case round =>
    obtain ⟨k, hk, rfl, hok, hbk, hB⟩ := hrel
    obtain ⟨p0, p1, z0, z1⟩ := hbk.two
    have hsz : w.heap.size < wr.heap.size := hbk.lt
    by_cases hlt : k < l.length
    · obtain ⟨x, hx⟩ : ∃ x, l[k]? = some x := ⟨_, List.getElem?_eq_getElem hlt⟩
      obtain ⟨g, o, rfl, c0, c1⟩ := HC.out k x hx
      have hlt' : (k : Int) < (l.length : Int) := by omega
      have q0 : wr.cell? ⟨g, o + k * 2, none⟩ = some (.int .i64 x.1) := (hB.cell (p := ⟨g, o + k * 2, none⟩) (World.block_lt_of_cell? w (a := ⟨g, o + k * 2, none⟩) c0)).trans c0
      have q1 : wr.cell? ⟨g, o + k * 2 + 1, none⟩ = some (.int .i64 x.2) := (hB.cell (p := ⟨g, o + k * 2 + 1, none⟩) (World.block_lt_of_cell? w (a := ⟨g, o + k * 2 + 1, none⟩) c1)).trans c1
      obtain ⟨a, b⟩ := x
      have HBK := Lib.hid hbk
      clear hbk c0 c1
      by_cases ha : 0 ≤ a ∧ a ≤ m
      · have ia : inB a 0 m = true := by simpa [inB] using ha
        by_cases hb : 0 ≤ b ∧ b ≤ m
        · have ib : inB b 0 m = true := by simpa [inB] using hb
          by_cases hab : a < b
          · have dab : decide (b ≤ a) = false := by simp; omega
            by_cases hk0 : k = 0
            · have dk : decide (0 < k) = false := by simp; omega
              have dk' : decide ((0 : Int) < (k : Int)) = false := by simp; omega
              have HOK := Lib.hid (hok.out.succ (ok_of (m := m) hx ha.1 hab (by simp only; omega) (fun d h => by omega)))
              clear hx hk0
              go_wp2_with fail
              have hm := HM.out
              go_quiet ((go_at_call 22; exact quiet_left (l1In_any _ _ _ _)))
              clear hm
              go_wp2_with fail
              go_roundw
              case rel => exact ⟨k + 1, by omega, by go_num, HOK, (HBK.out.alloc _).drewN _, below_drewN (hB.alloc (by omega) _) _⟩
              case measure => simp [intOf]; omega
            · obtain ⟨j, rfl⟩ : ∃ j, k = j + 1 := ⟨k - 1, by omega⟩
              obtain ⟨y, hy⟩ : ∃ y, l[j]? = some y := ⟨_, List.getElem?_eq_getElem (by omega)⟩
              obtain ⟨g', o', e', c2, c3⟩ := HC.out j y hy
              obtain ⟨rfl, rfl⟩ : g = g' ∧ o = o' := by simpa using e'
              have q2 : wr.cell? ⟨g, o + j * 2, none⟩ = some (.int .i64 y.1) := (hB.cell (p := ⟨g, o + j * 2, none⟩) (World.block_lt_of_cell? w (a := ⟨g, o + j * 2, none⟩) c2)).trans c2
              have q3 : wr.cell? ⟨g, o + j * 2 + 1, none⟩ = some (.int .i64 y.2) := (hB.cell (p := ⟨g, o + j * 2 + 1, none⟩) (World.block_lt_of_cell? w (a := ⟨g, o + j * 2 + 1, none⟩) c3)).trans c3
              obtain ⟨y1, y2⟩ := y
              clear c2 c3 e'
              by_cases hL : Lex (y1, y2) (a, b)
              · have HOK := Lib.hid (hok.out.succ (ok_of (m := m) hx ha.1 hab (by simp only; omega) (fun d h hd => by
                  rw [Nat.add_sub_cancel] at hd; rw [hy] at hd; cases hd; exact hL)))
                have il : lexB (y1, y2) (a, b) = true := by simpa [lexB] using hL
                clear hx hy hL
                go_wp2_with fail
                have hm := HM.out
                have hj1 : IntKind.i64.wrap ((j : Int) + 1 - 1) = (j : Int) := by rw [show (j : Int) + 1 - 1 = (j : Int) from by omega]; exact IntWalk.i64_in _ (by omega)
                have hj1' : IntKind.i64.wrap (j : Int) = (j : Int) := IntWalk.i64_in _ (by omega)
                have hj2 : (0 : Int) ≤ (j : Int) := by omega
                have hj4 : j < l.length := by omega
                have hj3 : (j : Int) < (l.length : Int) := by omega
                go_region_held3 (fun w' => w'.cell? ⟨g, o + j * 2, none⟩ = some (.int .i64 y1) ∧ w'.cell? ⟨g, o + j * 2 + 1, none⟩ = some (.int .i64 y2) ∧ w'.cell? ⟨wr.heap.size, 0, none⟩ = some (.int .i64 a) ∧ w'.cell? ⟨wr.heap.size, 1, none⟩ = some (.int .i64 b) ∧ w'.cell? ⟨w.heap.size, 0, none⟩ = some (.int .i64 s) ∧ w'.cell? ⟨w.heap.size, 1, none⟩ = some (.slice (some ⟨g, o, none⟩) l.length c)) (go_keep)
                  (first | (go_at_call 22; refine (l1In_any _ _ _ _).mono ?_; rintro e w1 ⟨rfl, rfl⟩)
                         | (go_at_call 23; refine (keep6 (p := ⟨g, o + j * 2, none⟩) (q := ⟨g, o + j * 2 + 1, none⟩) (r := ⟨wr.heap.size, 0, none⟩) (s := ⟨wr.heap.size, 1, none⟩) (t := ⟨w.heap.size, 0, none⟩) (u := ⟨w.heap.size, 1, none⟩) (l2Before_any y1 y2 a b _) (a := .int .i64 y1) (b := .int .i64 y2) (c := .int .i64 a) (d := .int .i64 b) (x := .int .i64 s) (y := .slice (some ⟨g, o, none⟩) l.length c) ?_ ?_ ?_ ?_ ?_ ?_).mono ?_; (simp [*]); (simp [*]); (simp [*]); (simp [*]); (simp [*]); (simp [*]); rintro e w1 ⟨rfl, k0, k1, k2, k3, k4, k5, hb⟩))
                have hB2 : Below w.heap.size w w1 := (below_drewN (hB.alloc (by omega) (.cells #[.int .i64 a, .int .i64 b] 48)) 1).trans (hb.mono (by simp; omega))
                have hb2 : Blk w1 w.heap.size 30 #[.int .i64 s, .slice (some ⟨g, o, none⟩) l.length c] := ((HBK.out.alloc (.cells #[.int .i64 a, .int .i64 b] 48)).drewN 1).below hb (by simp; omega)
                clear hm hj1 hj1' hj2 hj3 hj4 hb
                go_wp2_with fail
                go_roundw
                case rel => exact ⟨j + 1 + 1, by omega, by go_num, HOK, hb2, hB2⟩
                case measure => simp [intOf]; omega
              · have HN : Hid (goodM s m l = false) := goodM_no (not_ok_lex hx (m := m) (by omega) (by rw [Nat.add_sub_cancel]; exact hy) hL) hlt
                have il : lexB (y1, y2) (a, b) = false := by simpa [lexB] using hL
                clear hx hy hL
                go_wp2_with fail
                have hm := HM.out
                have hj1 : IntKind.i64.wrap ((j : Int) + 1 - 1) = (j : Int) := by rw [show (j : Int) + 1 - 1 = (j : Int) from by omega]; exact IntWalk.i64_in _ (by omega)
                have hj1' : IntKind.i64.wrap (j : Int) = (j : Int) := IntWalk.i64_in _ (by omega)
                have hj2 : (0 : Int) ≤ (j : Int) := by omega
                have hj4 : j < l.length := by omega
                have hj3 : (j : Int) < (l.length : Int) := by omega
                go_region_held3 (fun w' => w'.cell? ⟨g, o + j * 2, none⟩ = some (.int .i64 y1) ∧ w'.cell? ⟨g, o + j * 2 + 1, none⟩ = some (.int .i64 y2) ∧ w'.cell? ⟨wr.heap.size, 0, none⟩ = some (.int .i64 a) ∧ w'.cell? ⟨wr.heap.size, 1, none⟩ = some (.int .i64 b) ∧ w'.cell? ⟨w.heap.size, 0, none⟩ = some (.int .i64 s) ∧ w'.cell? ⟨w.heap.size, 1, none⟩ = some (.slice (some ⟨g, o, none⟩) l.length c)) (go_keep)
                  (first | (go_at_call 22; refine (l1In_any _ _ _ _).mono ?_; rintro e w1 ⟨rfl, rfl⟩)
                         | (go_at_call 23; refine (keep6 (p := ⟨g, o + j * 2, none⟩) (q := ⟨g, o + j * 2 + 1, none⟩) (r := ⟨wr.heap.size, 0, none⟩) (s := ⟨wr.heap.size, 1, none⟩) (t := ⟨w.heap.size, 0, none⟩) (u := ⟨w.heap.size, 1, none⟩) (l2Before_any y1 y2 a b _) (a := .int .i64 y1) (b := .int .i64 y2) (c := .int .i64 a) (d := .int .i64 b) (x := .int .i64 s) (y := .slice (some ⟨g, o, none⟩) l.length c) ?_ ?_ ?_ ?_ ?_ ?_).mono ?_; (simp [*]); (simp [*]); (simp [*]); (simp [*]); (simp [*]); (simp [*]); rintro e w1 ⟨rfl, k0, k1, k2, k3, k4, k5, hb⟩))
                have hB2 : Below w.heap.size w w1 := (below_drewN (hB.alloc (by omega) (.cells #[.int .i64 a, .int .i64 b] 48)) 1).trans (hb.mono (by simp; omega))
                clear hm hj1 hj1' hj2 hj3 hj4 hb
                go_wp2_with fail
                go_ret
                exact ⟨ret_bool HN.out.symm, hB2⟩
          · have HN : Hid (goodM s m l = false) := goodM_no (not_ok_of hx (m := m) (.inr (.inl (by simp only; omega)))) hlt
            have dab : decide (b ≤ a) = true := by simp; omega
            clear hx
            go_wp2_with fail
            have hm := HM.out
            go_quiet ((go_at_call 22; exact quiet_left (l1In_any _ _ _ _)))
            clear hm
            go_wp2_with fail
            go_ret
            exact ⟨ret_bool HN.out.symm, below_drewN (hB.alloc (by omega) _) _⟩
        · have ib : inB b 0 m = false := by simpa [inB] using hb
          have HN : Hid (goodM s m l = false) := goodM_no (fun H => by have := H _ hx; simp only at this; omega) hlt
          clear hx
          go_wp2_with fail
          have hm := HM.out
          go_quiet ((go_at_call 22; exact quiet_left (l1In_any _ _ _ _)))
          clear hm
          go_wp2_with fail
          go_ret
          exact ⟨ret_bool HN.out.symm, below_drewN (hB.alloc (by omega) _) _⟩
      · have ia : inB a 0 m = false := by simpa [inB] using ha
        have HN : Hid (goodM s m l = false) := goodM_no (fun H => by have := H _ hx; simp only at this; omega) hlt
        clear hx
        go_wp2_with fail
        have hm := HM.out
        go_quiet ((go_at_call 22; exact quiet_left (l1In_any _ _ _ _)))
        clear hm
        go_wp2_with fail
        go_ret
        exact ⟨ret_bool HN.out.symm, below_drewN (hB.alloc (by omega) _) _⟩
    · have HN : Hid (goodM s m l = inB s 0 8) := by
        have h1 : OkTo m l l.length := by have := hok.out; rwa [show k = l.length from by omega] at this
        show _ = _
        unfold goodM inB
        refine decide_eq_decide.2 ?_
        exact ⟨fun h => h.2, fun h => ⟨h1, h⟩⟩
      go_wp2_with (go_at_call 22; refine (l1In_any _ _ _ _).mono ?_; rintro e w' ⟨rfl, rfl⟩)
      go_ret
      exact ⟨ret_bool HN.out.symm, hB⟩

theorem l2Good_any (s : Int) (v : Value) (l : List Ed) (w : World) (h : Edges w v l) (hl : l.length ≤ 1048576) (h0 : -9223372036854775808 ≤ s) (h1 : s ≤ 9223372036854775807) :
    Calls Tryd.prog 14 #[.agg #[.int .i64 s, v]] w fun e w' => e = .returned (.bool (goodB s l)) ∧ Below w.heap.size w w' := by
  rw [← goodM_eq (m := IntKind.i64.wrap (s - 1)) (fun h2 h3 => IntWalk.i64_in _ (by omega))]
  exact l2Good_m s _ v l w h hl rfl
end Go.Proofs.YthgahkkjdpljjaaDoor.good
