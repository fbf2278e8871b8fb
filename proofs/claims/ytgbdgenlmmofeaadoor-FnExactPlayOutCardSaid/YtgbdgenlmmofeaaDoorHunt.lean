/- The cops' choice: the contracts of the program's timeBehind and pursuit. -/
import Derived.Test.YtgbdgenlmmofeaaDoorFlee
import Derived.Test.YtgbdgenlmmofeaaDoorFunc
import Derived.Deep.RegionHeldLaw
namespace Go.Proofs.YtgbdgenlmmofeaaDoor.times
open Go.RowKit P2 words edges ints good adjs fns sets rets covs balls minmax bitsI bags gridr mids grid reps strip least func
set_option linter.unusedVariables false

theorem env_below {w w' : World} (h : Env w) (hb : Below w.heap.size w w') : Env w' := h.next hb

set_option maxHeartbeats 2000000 in
set_option maxRecDepth 100000 in
theorem timeBehind_any (G : Game) (q r : Nat) (T : Nat → Nat → Int) (l : List Ed) (ml : List (List Int)) (cv tv mv xv : Value) (us us' : List Value) (w : World) (h : ChaseR w G l ml cv tv mv us) (hx : ReadsG w xv us' (gridG G.P G.n T)) (hT : ∀ p r, -1 ≤ T p r) (hq : q < G.P) (hr : r < G.n) (hE : Env w) :
    Calls Tryd.prog 63 #[.agg #[cv, tv, mv, xv], .int .i64 (q : Int), .int .i64 (r : Int)] w fun e w' => e = .returned (.int .i64 (afterG G T l q r)) ∧ Below w.heap.size w w' := by
  have hn := h.n8
  obtain ⟨Ac, cc, rfl, -⟩ := h.closed.form
  obtain ⟨At, ct, rfl, hct⟩ := h.taken.form
  obtain ⟨Am, cm, rfl, -⟩ := h.lists.1
  obtain ⟨Ax, cx, rfl, -⟩ := hx.1
  rw [clos_len l G.n, codesL_len G.P G.n G.tk, gridG_len G.P G.n T]
  have b0 : Below w.heap.size w (w.alloc (.cells #[.slice Ac G.n cc, .slice At G.P ct, .slice Am ml.length cm, .slice Ax G.P cx] 63)) := (Below.refl _ _).alloc (Nat.le_refl _) _
  have g0 := Blk.new w 63 #[.slice Ac G.n cc, .slice At G.P ct, .slice Am ml.length cm, .slice Ax G.P cx]
  obtain ⟨p0, p1, p2, p3⟩ := blk4 g0
  obtain ⟨u, gx, ox, hu, rfl, c0, hru⟩ := (show ReadsG w (.slice Ax (gridG G.P G.n T).length cx) us' (gridG G.P G.n T) from hx).row (gridG_at (n := G.n) (T := T) hq)
  obtain ⟨Ar, cr, rfl, hcr⟩ := hru.form
  obtain ⟨gt, ot, rfl, t0⟩ := hct q _ (codesL_at hq)
  have HFL := Lib.hid (fun (W : World) (hW : Below w.heap.size w W) => flight_any G.n G.P q r T l _ (.slice (some ⟨gt, ot, none⟩) (codesL G.P G.n G.tk).length ct) (.slice Am ml.length cm) _ us' W (h.closed.below hW) (hx.below hW) h.good hn h.small hq hr (hE.next hW))
  have HHAS := Lib.hid (fun (W : World) => has_any (numOf (G.tk q) G.n) r W (by have := numOf_lt (G.tk q) hn; omega) (by omega))
  have hbit := numOf_bit (G.tk q) G.n r
  rw [decide_eq_true hr, Bool.true_and] at hbit
  simp only [hbit] at HHAS
  obtain ⟨y, hy1, hy2⟩ := flee_all (t := T q) (l := l) hr
  have HW := Lib.hid (flee_worst (hT q) (ball_pos (l := l) hr))
  rw [hy1, Int.toNat_natCast] at HW
  rw [hy1] at HFL
  obtain ⟨gr, orr, rfl, f0⟩ := hcr y _ (rowG_at hy2)
  have f0' := nearv.cell_keep f0 b0
  have c0' := nearv.cell_keep c0 b0
  have t0' := nearv.cell_keep t0 b0
  have hq' : (q : Int) < (G.P : Int) := by omega
  have hq0 : (0 : Int) ≤ (q : Int) := by omega
  have hy0 : (0 : Int) ≤ (y : Int) := by omega
  have hyn : (y : Int) < (G.n : Int) := by omega
  rw [rowG_len] at c0'
  simp only [clos_len, codesL_len, gridG_len] at HFL
  have HB0 := Lib.hid b0
  clear h hx hT hE hct hu c0 hru hcr t0 b0 g0 f0 hbit hy1
  by_cases htk : G.tk q r = true
  · have HV : Hid (afterG G T l q r = 0) := if_pos htk
    simp only [htk] at HHAS
    clear htk HFL
    go_enter Tryd.func63, Tryd.ntmps63
    go_wp2_with fail
    refine (HHAS.out _).mono ?_
    rintro e w' ⟨rfl, rfl⟩
    go_wp2_with fail
    go_ret
    exact ⟨ret_int HV.out.symm, HB0.out⟩
  · have HV : Hid (afterG G T l q r = T q y) := by show _ = _; unfold afterG; rw [if_neg htk, HW.out]
    have htk' : G.tk q r = false := by simpa using htk
    simp only [htk'] at HHAS
    clear htk htk' HW
    go_enter Tryd.func63, Tryd.ntmps63
    go_wp2_with fail
    refine (HHAS.out _).mono ?_
    rintro e w' ⟨rfl, rfl⟩
    go_wp2_with fail
    generalize (w.alloc (.cells #[.slice Ac G.n cc, .slice (some ⟨gt, ot, none⟩) G.P ct, .slice Am ml.length cm, .slice (some ⟨gx, ox, none⟩) G.P cx] 63)) = w1 at *
    have p0' : w1.drew.cell? ⟨w.heap.size, 0, none⟩ = _ := p0
    have p1' : w1.drew.cell? ⟨w.heap.size, 1, none⟩ = _ := p1
    have p2' : w1.drew.cell? ⟨w.heap.size, 2, none⟩ = _ := p2
    have p3' : w1.drew.cell? ⟨w.heap.size, 3, none⟩ = _ := p3
    have c0'' : w1.drew.cell? ⟨gx, ox + q, none⟩ = _ := c0'
    have f0'' : w1.drew.cell? ⟨gr, orr + y, none⟩ = _ := f0'
    have HBD : Hid (Below w.heap.size w w1.drew) := HB0.out.drew
    have HF1 := Lib.hid (HFL.out _ HBD.out)
    clear HFL t0' HHAS
    refine wp_region_held_drew (S := (fun w' : World => w'.cell? ⟨w.heap.size, 0, none⟩ = some (.slice Ac G.n cc) ∧ w'.cell? ⟨w.heap.size, 1, none⟩ = some (.slice (some ⟨gt, ot, none⟩) G.P ct) ∧ w'.cell? ⟨w.heap.size, 2, none⟩ = some (.slice Am ml.length cm) ∧ w'.cell? ⟨w.heap.size, 3, none⟩ = some (.slice (some ⟨gx, ox, none⟩) G.P cx) ∧ w'.cell? ⟨gx, ox + q, none⟩ = some (.slice (some ⟨gr, orr, none⟩) G.n cr) ∧ w'.cell? ⟨gr, orr + y, none⟩ = some (.int .i64 (T q y)))) (by kernel_rfl) (by (try dsimp only); simp [*]) (fun hHeld => ?_)
    change wpAnyH _ _ _ _ _ _ #[false, false, false, false, false, false, false, false, false, false, false, false] _ _
    refine wpAnyH_take (i := 0) (oi := ⟨some 14, _, _, _, _, _⟩) (v := ?_) rfl (by kernel_rfl) (by kernel_rfl) (by kernel_rfl) (fun _ _ _ h => h) (Or.inl ⟨by rfl, ?_⟩) (by assumption) ?_
    rotate_left
    · (intro w hSw; (try dsimp only at hSw); go_simp; (try (with_reducible rfl)))
    try simp only [Act.put, List.setIfInBounds_toArray, List.set_cons_zero, List.set_cons_succ]
    refine wpAnyH_take (i := 1) (oi := ⟨some 15, _, _, _, _, _⟩) (v := ?_) rfl (by kernel_rfl) (by kernel_rfl) (by kernel_rfl) (fun _ _ _ h => h) (Or.inl ⟨by rfl, ?_⟩) (by assumption) ?_
    rotate_left
    · (intro w hSw; (try dsimp only at hSw); go_simp; (try (with_reducible rfl)))
    try simp only [Act.put, List.setIfInBounds_toArray, List.set_cons_zero, List.set_cons_succ]
    refine wpAnyH_take (i := 2) (oi := ⟨some 16, _, _, _, _, _⟩) (v := ?_) rfl (by kernel_rfl) (by kernel_rfl) (by kernel_rfl) (fun _ _ _ h => h) (Or.inl ⟨by rfl, ?_⟩) (by assumption) ?_
    rotate_left
    · (intro w hSw; (try dsimp only at hSw); go_simp; (try (with_reducible rfl)))
    try simp only [Act.put, List.setIfInBounds_toArray, List.set_cons_zero, List.set_cons_succ]
    refine wpAnyH_take (i := 3) (oi := ⟨some 17, _, _, _, _, _⟩) (v := ?_) rfl (by kernel_rfl) (by kernel_rfl) (by kernel_rfl) (fun _ _ _ h => h) (Or.inl ⟨by rfl, ?_⟩) (by assumption) ?_
    rotate_left
    · (intro w hSw; (try dsimp only at hSw); go_simp; (try (with_reducible rfl)))
    try simp only [Act.put, List.setIfInBounds_toArray, List.set_cons_zero, List.set_cons_succ]
    refine wpAnyH_take (i := 4) (oi := ⟨some 18, _, _, _, _, _⟩) (v := ?_) rfl (by kernel_rfl) (by kernel_rfl) (by kernel_rfl) (fun _ _ _ h => h) (Or.inl ⟨by rfl, ?_⟩) (by assumption) ?_
    rotate_left
    · (intro w hSw; (try dsimp only at hSw); go_simp; (try (with_reducible rfl)))
    try simp only [Act.put, List.setIfInBounds_toArray, List.set_cons_zero, List.set_cons_succ]
    refine wpAnyH_take (i := 5) (oi := ⟨some 19, _, _, _, _, _⟩) (v := ?_) rfl (by kernel_rfl) (by kernel_rfl) (by kernel_rfl) (fun _ _ _ h => h) (Or.inl ⟨by rfl, ?_⟩) (by assumption) ?_
    rotate_left
    · (intro w hSw; (try dsimp only at hSw); go_simp; (try (with_reducible rfl)))
    try simp only [Act.put, List.setIfInBounds_toArray, List.set_cons_zero, List.set_cons_succ]
    refine wpAnyH_take (i := 6) (oi := ⟨some 20, _, _, _, _, _⟩) (v := ?_) rfl (by kernel_rfl) (by kernel_rfl) (by kernel_rfl) (fun _ _ _ h => h) (Or.inl ⟨by rfl, ?_⟩) (by assumption) ?_
    rotate_left
    · (intro w hSw; (try dsimp only at hSw); go_simp; (try (with_reducible rfl)))
    try simp only [Act.put, List.setIfInBounds_toArray, List.set_cons_zero, List.set_cons_succ]
    refine wpAnyH_take (i := 7) (oi := ⟨some 21, _, _, _, _, _⟩) (v := ?_) rfl (by kernel_rfl) (by kernel_rfl) (by kernel_rfl) (fun _ _ _ h => h) (Or.inl ⟨by rfl, ?_⟩) (by assumption) ?_
    rotate_left
    · (intro w hSw; (try dsimp only at hSw); go_simp; (try (with_reducible rfl)))
    try simp only [Act.put, List.setIfInBounds_toArray, List.set_cons_zero, List.set_cons_succ]
    refine wpAnyH_ready (rs := [8]) (by kernel_rfl) (by simp) ?_
    refine AllReadyH.cons (o := ⟨some 22, _, _, _, _, _⟩) rfl (fun K hK => ?_) AllReadyH.nil
    go_simp
    go_at_call 41; refine HF1.out.mono ?_; rintro e w3 ⟨rfl, b3⟩; have k0 := nearv.cell_keep p0' b3; have k1 := nearv.cell_keep p1' b3; have k2 := nearv.cell_keep p2' b3; have k3 := nearv.cell_keep p3' b3; have k4 := nearv.cell_keep c0'' b3; have k5 := nearv.cell_keep f0'' b3; have HBE := Lib.hid (btrans HBD.out b3)
    go_wp2_with fail
    refine hK.out _ _ (by (try dsimp only); simp [*]) (fun hHeld => ?_)
    clear hK K
    try simp only [List.setIfInBounds_toArray, List.set_cons_zero, List.set_cons_succ]
    refine wpAnyH_take (i := 9) (oi := ⟨some 23, _, _, _, _, _⟩) (v := ?_) rfl (by kernel_rfl) (by kernel_rfl) (by kernel_rfl) (fun _ _ _ h => h) (Or.inl ⟨by rfl, ?_⟩) (by assumption) ?_
    rotate_left
    · (intro w hSw; (try dsimp only at hSw); go_simp; (try (with_reducible rfl)))
    try simp only [Act.put, List.setIfInBounds_toArray, List.set_cons_zero, List.set_cons_succ]
    refine wpAnyH_take (i := 10) (oi := ⟨some 24, _, _, _, _, _⟩) (v := ?_) rfl (by kernel_rfl) (by kernel_rfl) (by kernel_rfl) (fun _ _ _ h => h) (Or.inl ⟨by rfl, ?_⟩) (by assumption) ?_
    rotate_left
    · (intro w hSw; (try dsimp only at hSw); go_simp; (try (with_reducible rfl)))
    try simp only [Act.put, List.setIfInBounds_toArray, List.set_cons_zero, List.set_cons_succ]
    refine wpAnyH_take (i := 11) (oi := ⟨some 6, _, _, _, _, _⟩) (v := ?_) rfl (by kernel_rfl) (by kernel_rfl) (by kernel_rfl) (fun _ _ _ h => h) (Or.inl ⟨by rfl, ?_⟩) (by assumption) ?_
    rotate_left
    · (intro w hSw; (try dsimp only at hSw); go_simp; (try (with_reducible rfl)))
    try simp only [Act.put, List.setIfInBounds_toArray, List.set_cons_zero, List.set_cons_succ]
    refine wpAnyH_done (by kernel_rfl) ?_ _
    go_wp2_with fail
    go_ret
    exact ⟨ret_int HV.out.symm, HBE.out⟩
set_option maxHeartbeats 2000000 in
set_option maxRecDepth 100000 in
theorem pursuit1_any (G : Game) (q p r a b d : Nat) (T : Nat → Nat → Int) (l : List Ed) (ml : List (List Int)) (cv tv mv xv : Value) (us us' : List Value) (w : World) (h : ChaseR w G l ml cv tv mv us) (hx : ReadsG w xv us' (gridG G.P G.n T)) (hT : ∀ p r, -1 ≤ T p r) (hTu : T p r ≤ 1000000) (hq : q < G.P) (hp : p < G.P) (hr : r < G.n) (hE : Env w)
    (ha : Blk w a 63 #[cv, tv, mv, xv]) (hb : w.cell? ⟨b, 0, none⟩ = some (.int .i64 (r : Int))) (hd : w.cell? ⟨d, 0, none⟩ = some (.int .i64 (p : Int))) :
    Calls Tryd.prog 62 #[.int .i64 (q : Int), .pointer (some ⟨a, 0, none⟩), .pointer (some ⟨b, 0, none⟩), .pointer (some ⟨d, 0, none⟩)] w fun e w' => e = .returned (.bool (huntB G T l p r (q : Int))) ∧ Below w.heap.size w w' := by
  obtain ⟨p0, p1, p2, p3⟩ := blk4 ha
  have HT := Lib.hid (timeBehind_any G q r T l ml cv tv mv xv us us' _ (h.below (Below.refl _ w).drew) (hx.below (Below.refl _ w).drew) hT hq hr (hE.next (Below.refl _ w).drew))
  obtain ⟨Ax, cx, rfl, -⟩ := hx.1
  rw [gridG_len] at *
  obtain ⟨u, gx, ox, hu, rfl, c0, hru⟩ := (show ReadsG w (.slice Ax (gridG G.P G.n T).length cx) us' (gridG G.P G.n T) from by rw [gridG_len]; exact hx).row (gridG_at (n := G.n) (T := T) hp)
  obtain ⟨Ar, cr, rfl, hcr⟩ := hru.form
  obtain ⟨gr, orr, rfl, f0⟩ := hcr r _ (rowG_at hr)
  rw [rowG_len] at c0
  have hT1 := hT p r
  have hwr : IntKind.i64.wrap (T p r - 1) = T p r - 1 := IntWalk.i64_in _ (by omega)
  have HV : Hid (huntB G T l p r (q : Int) = (afterG G T l q r == T p r - 1)) := rfl
  have hp' : (p : Int) < (G.P : Int) := by omega
  have hp0 : (0 : Int) ≤ (p : Int) := by omega
  have hr' : (r : Int) < (G.n : Int) := by omega
  have hr0 : (0 : Int) ≤ (r : Int) := by omega
  have p0' : w.drew.cell? ⟨a, 0, none⟩ = _ := p0
  have p1' : w.drew.cell? ⟨a, 1, none⟩ = _ := p1
  have p2' : w.drew.cell? ⟨a, 2, none⟩ = _ := p2
  have p3' : w.drew.cell? ⟨a, 3, none⟩ = _ := p3
  have hb' : w.drew.cell? ⟨b, 0, none⟩ = _ := hb
  have hd' : w.drew.cell? ⟨d, 0, none⟩ = _ := hd
  have c0' : w.drew.cell? ⟨gx, ox + p, none⟩ = _ := c0
  have f0' : w.drew.cell? ⟨gr, orr + r, none⟩ = _ := f0
  have HBD : Hid (Below w.heap.size w w.drew) := (Below.refl _ w).drew
  clear h hx hT hTu hE ha hu hru hcr hT1
  generalize afterG G T l q r = av at *
  generalize T p r = tv' at *
  go_enter Tryd.func62, Tryd.ntmps62
  go_wp2_with fail
  refine wp_region_held_drew (S := (fun w' : World => w'.cell? ⟨a, 0, none⟩ = some cv ∧ w'.cell? ⟨a, 1, none⟩ = some tv ∧ w'.cell? ⟨a, 2, none⟩ = some mv ∧ w'.cell? ⟨a, 3, none⟩ = some (.slice (some ⟨gx, ox, none⟩) G.P cx) ∧ w'.cell? ⟨b, 0, none⟩ = some (.int .i64 (r : Int)) ∧ w'.cell? ⟨d, 0, none⟩ = some (.int .i64 (p : Int)) ∧ w'.cell? ⟨gx, ox + p, none⟩ = some (.slice (some ⟨gr, orr, none⟩) G.n cr) ∧ w'.cell? ⟨gr, orr + r, none⟩ = some (.int .i64 tv'))) (by kernel_rfl) (by (try dsimp only); simp [*]) (fun hHeld => ?_)
  change wpAnyH _ _ _ _ _ _ #[false, false, false, false, false, false, false, false, false, false, false, false, false, false, false] _ _
  refine wpAnyH_take (i := 0) (oi := ⟨some 6, _, _, _, _, _⟩) (v := ?_) rfl (by kernel_rfl) (by kernel_rfl) (by kernel_rfl) (fun _ _ _ h => h) (Or.inl ⟨by rfl, ?_⟩) (by assumption) ?_
  rotate_left
  · (intro w hSw; (try dsimp only at hSw); go_simp; (try (with_reducible rfl)))
  try simp only [Act.put, List.setIfInBounds_toArray, List.set_cons_zero, List.set_cons_succ]
  refine wpAnyH_take (i := 1) (oi := ⟨some 7, _, _, _, _, _⟩) (v := ?_) rfl (by kernel_rfl) (by kernel_rfl) (by kernel_rfl) (fun _ _ _ h => h) (Or.inl ⟨by rfl, ?_⟩) (by assumption) ?_
  rotate_left
  · (intro w hSw; (try dsimp only at hSw); go_simp; (try (with_reducible rfl)))
  try simp only [Act.put, List.setIfInBounds_toArray, List.set_cons_zero, List.set_cons_succ]
  refine wpAnyH_take (i := 2) (oi := ⟨some 8, _, _, _, _, _⟩) (v := ?_) rfl (by kernel_rfl) (by kernel_rfl) (by kernel_rfl) (fun _ _ _ h => h) (Or.inl ⟨by rfl, ?_⟩) (by assumption) ?_
  rotate_left
  · (intro w hSw; (try dsimp only at hSw); go_simp; (try (with_reducible rfl)))
  try simp only [Act.put, List.setIfInBounds_toArray, List.set_cons_zero, List.set_cons_succ]
  refine wpAnyH_take (i := 4) (oi := ⟨some 10, _, _, _, _, _⟩) (v := ?_) rfl (by kernel_rfl) (by kernel_rfl) (by kernel_rfl) (fun _ _ _ h => h) (Or.inl ⟨by rfl, ?_⟩) (by assumption) ?_
  rotate_left
  · (intro w hSw; (try dsimp only at hSw); go_simp; (try (with_reducible rfl)))
  try simp only [Act.put, List.setIfInBounds_toArray, List.set_cons_zero, List.set_cons_succ]
  refine wpAnyH_take (i := 5) (oi := ⟨some 11, _, _, _, _, _⟩) (v := ?_) rfl (by kernel_rfl) (by kernel_rfl) (by kernel_rfl) (fun _ _ _ h => h) (Or.inl ⟨by rfl, ?_⟩) (by assumption) ?_
  rotate_left
  · (intro w hSw; (try dsimp only at hSw); go_simp; (try (with_reducible rfl)))
  try simp only [Act.put, List.setIfInBounds_toArray, List.set_cons_zero, List.set_cons_succ]
  refine wpAnyH_take (i := 6) (oi := ⟨some 12, _, _, _, _, _⟩) (v := ?_) rfl (by kernel_rfl) (by kernel_rfl) (by kernel_rfl) (fun _ _ _ h => h) (Or.inl ⟨by rfl, ?_⟩) (by assumption) ?_
  rotate_left
  · (intro w hSw; (try dsimp only at hSw); go_simp; (try (with_reducible rfl)))
  try simp only [Act.put, List.setIfInBounds_toArray, List.set_cons_zero, List.set_cons_succ]
  refine wpAnyH_take (i := 7) (oi := ⟨some 13, _, _, _, _, _⟩) (v := ?_) rfl (by kernel_rfl) (by kernel_rfl) (by kernel_rfl) (fun _ _ _ h => h) (Or.inl ⟨by rfl, ?_⟩) (by assumption) ?_
  rotate_left
  · (intro w hSw; (try dsimp only at hSw); go_simp; (try (with_reducible rfl)))
  try simp only [Act.put, List.setIfInBounds_toArray, List.set_cons_zero, List.set_cons_succ]
  refine wpAnyH_take (i := 8) (oi := ⟨some 14, _, _, _, _, _⟩) (v := ?_) rfl (by kernel_rfl) (by kernel_rfl) (by kernel_rfl) (fun _ _ _ h => h) (Or.inl ⟨by rfl, ?_⟩) (by assumption) ?_
  rotate_left
  · (intro w hSw; (try dsimp only at hSw); go_simp; (try (with_reducible rfl)))
  try simp only [Act.put, List.setIfInBounds_toArray, List.set_cons_zero, List.set_cons_succ]
  refine wpAnyH_take (i := 9) (oi := ⟨some 15, _, _, _, _, _⟩) (v := ?_) rfl (by kernel_rfl) (by kernel_rfl) (by kernel_rfl) (fun _ _ _ h => h) (Or.inl ⟨by rfl, ?_⟩) (by assumption) ?_
  rotate_left
  · (intro w hSw; (try dsimp only at hSw); go_simp; (try (with_reducible rfl)))
  try simp only [Act.put, List.setIfInBounds_toArray, List.set_cons_zero, List.set_cons_succ]
  refine wpAnyH_take (i := 10) (oi := ⟨some 16, _, _, _, _, _⟩) (v := ?_) rfl (by kernel_rfl) (by kernel_rfl) (by kernel_rfl) (fun _ _ _ h => h) (Or.inl ⟨by rfl, ?_⟩) (by assumption) ?_
  rotate_left
  · (intro w hSw; (try dsimp only at hSw); go_simp; (try (with_reducible rfl)))
  try simp only [Act.put, List.setIfInBounds_toArray, List.set_cons_zero, List.set_cons_succ]
  refine wpAnyH_take (i := 11) (oi := ⟨some 17, _, _, _, _, _⟩) (v := ?_) rfl (by kernel_rfl) (by kernel_rfl) (by kernel_rfl) (fun _ _ _ h => h) (Or.inl ⟨by rfl, ?_⟩) (by assumption) ?_
  rotate_left
  · (intro w hSw; (try dsimp only at hSw); go_simp; (try (with_reducible rfl)))
  try simp only [Act.put, List.setIfInBounds_toArray, List.set_cons_zero, List.set_cons_succ]
  refine wpAnyH_take (i := 12) (oi := ⟨some 18, _, _, _, _, _⟩) (v := ?_) rfl (by kernel_rfl) (by kernel_rfl) (by kernel_rfl) (fun _ _ _ h => h) (Or.inl ⟨by rfl, ?_⟩) (by assumption) ?_
  rotate_left
  · (intro w hSw; (try dsimp only at hSw); go_simp; (try (with_reducible rfl)))
  try simp only [Act.put, List.setIfInBounds_toArray, List.set_cons_zero, List.set_cons_succ]
  refine wpAnyH_ready (rs := [3]) (by kernel_rfl) (by simp) ?_
  refine AllReadyH.cons (o := ⟨some 9, _, _, _, _, _⟩) rfl (fun K hK => ?_) AllReadyH.nil
  go_simp
  go_at_call 63; refine HT.out.mono ?_; rintro e w3 ⟨rfl, b3⟩; have k0 := nearv.cell_keep p0' b3; have k1 := nearv.cell_keep p1' b3; have k2 := nearv.cell_keep p2' b3; have k3 := nearv.cell_keep p3' b3; have k4 := nearv.cell_keep hb' b3; have k5 := nearv.cell_keep hd' b3; have k6 := nearv.cell_keep c0' b3; have k7 := nearv.cell_keep f0' b3; have HBE := Lib.hid (btrans HBD.out b3)
  go_wp2_with fail
  refine hK.out _ _ (by (try dsimp only); simp [*]) (fun hHeld => ?_)
  clear hK K
  try simp only [List.setIfInBounds_toArray, List.set_cons_zero, List.set_cons_succ]
  refine wpAnyH_take (i := 13) (oi := ⟨some 19, _, _, _, _, _⟩) (v := ?_) rfl (by kernel_rfl) (by kernel_rfl) (by kernel_rfl) (fun _ _ _ h => h) (Or.inl ⟨by rfl, ?_⟩) (by assumption) ?_
  rotate_left
  · (intro w hSw; (try dsimp only at hSw); go_simp; (try (with_reducible rfl)))
  try simp only [Act.put, List.setIfInBounds_toArray, List.set_cons_zero, List.set_cons_succ]
  refine wpAnyH_take (i := 14) (oi := ⟨some 5, _, _, _, _, _⟩) (v := ?_) rfl (by kernel_rfl) (by kernel_rfl) (by kernel_rfl) (fun _ _ _ h => h) (Or.inl ⟨by rfl, ?_⟩) (by assumption) ?_
  rotate_left
  · (intro w hSw; (try dsimp only at hSw); go_simp; (try (with_reducible rfl)))
  try simp only [Act.put, List.setIfInBounds_toArray, List.set_cons_zero, List.set_cons_succ]
  refine wpAnyH_done (by kernel_rfl) ?_ _
  go_wp2_with fail
  go_ret
  exact ⟨ret_bool HV.out.symm, HBE.out⟩
set_option maxHeartbeats 2000000 in
set_option maxRecDepth 100000 in
theorem pursuit_any (G : Game) (p r : Nat) (l : List Ed) (ml : List (List Int)) (mvs : List Int) (cv tv mv xv : Value) (us us' : List Value) (w : World) (h : ChaseR w G l ml cv tv mv us) (hx : ReadsG w xv us' (gridG G.P G.n (tms G))) (hp : p < G.P) (hr : r < G.n) (hml : ml[p]? = some mvs) (h1 : 1 ≤ tms G p r) (hE : Env w) :
    Calls Tryd.prog 39 #[.agg #[cv, tv, mv, xv], .int .i64 (p : Int), .int .i64 (r : Int)] w fun e w' => e = .returned (.int .i64 (huntL G (tms G) l mvs p r)) ∧ Below w.heap.size w w' := by
  have hmf : ∀ (fn : Fn) (first cap : Array Value) (w : World), (Instr.makeFunc fn first cap).run Tryd.prog w = .ok (.func fn first cap) w := fun _ _ _ _ => rfl
  obtain ⟨k, q, hkq, hL, hqP, hqB, hno⟩ := hunt_is h.ball h.moves hp hr hml h1
  have HIX := Lib.hid (idxF_at hno hkq hqB)
  have HL := Lib.hid hL
  have hup : tms G p r ≤ 1000000 := by
    have h2 := tms_le (G := G) hp hr
    have h3 : G.P * G.n ≤ 200 * 8 := Nat.mul_le_mul h.small h.n8
    omega
  have hmr := (h.moves.2 p mvs hml).1
  obtain ⟨Am, cm, rfl, -⟩ := h.lists.1
  have hb0 : Below w.heap.size w (((w.alloc (.cells #[cv, tv, .slice Am ml.length cm, xv] 63)).alloc (.cells #[.int .i64 (p : Int)] 3)).alloc (.cells #[.int .i64 (r : Int)] 3)) := (((Below.refl _ _).alloc (Nat.le_refl _) _).alloc (by simp) _).alloc (by simp; omega) _
  have g0 := ((Blk.new w 63 #[cv, tv, .slice Am ml.length cm, xv]).alloc (.cells #[.int .i64 (p : Int)] 3)).alloc (.cells #[.int .i64 (r : Int)] 3)
  have g1 := (Blk.new (w.alloc (.cells #[cv, tv, .slice Am ml.length cm, xv] 63)) 3 #[.int .i64 (p : Int)]).alloc (.cells #[.int .i64 (r : Int)] 3)
  have g2 := Blk.new ((w.alloc (.cells #[cv, tv, .slice Am ml.length cm, xv] 63)).alloc (.cells #[.int .i64 (p : Int)] 3)) 3 #[.int .i64 (r : Int)]
  rw [World.size_alloc] at g1 g2
  rw [World.size_alloc] at g2
  obtain ⟨p0, p1, p2, p3⟩ := blk4 g0
  obtain ⟨m0, -⟩ := g1.one
  obtain ⟨n0, -⟩ := g2.one
  obtain ⟨u, gm, om, hu, rfl, c0, hru⟩ := h.lists.row hml
  obtain ⟨Ar, cr, rfl, hcr⟩ := hru.form
  have hmsh := h.short mvs (List.mem_of_getElem? hml)
  have hmll : ml.length = G.P := h.moves.1
  have hp' : (p : Int) < (ml.length : Int) := by omega
  have hp0 : (0 : Int) ≤ (p : Int) := by omega
  obtain ⟨gr, orr, rfl, f0⟩ := hcr k _ hkq
  have c0' := nearv.cell_keep c0 hb0
  have hk : k < mvs.length := (List.getElem?_eq_some_iff.1 hkq).1
  have hk' : (k : Int) < (mvs.length : Int) := by omega
  have hk0 : (0 : Int) ≤ (k : Int) := by omega
  have HC := Lib.hid (h.below hb0)
  have HX := Lib.hid (hx.below hb0)
  have HE := Lib.hid (hE.next hb0)
  have HR := Lib.hid (hru.below hb0)
  have HF0 : Hid (w.cell? ⟨gr, orr + k, none⟩ = some (.int .i64 (q : Int))) := f0
  have HB0 := Lib.hid hb0
  have HFN : Hid (FnI (((w.alloc (.cells #[cv, tv, .slice (some ⟨gm, om, none⟩) ml.length cm, xv] 63)).alloc (.cells #[.int .i64 (p : Int)] 3)).alloc (.cells #[.int .i64 (r : Int)] 3)) 62 #[.pointer (some ⟨w.heap.size, 0, none⟩), .pointer (some ⟨w.heap.size + 1 + 1, 0, none⟩), .pointer (some ⟨w.heap.size + 1, 0, none⟩)] mvs (huntB G (tms G) l p r)) := by
    refine ⟨fun _ _ => by kernel_rfl, fun W hW x hx9 => ?_⟩
    have hxr := hmr x hx9
    obtain ⟨q', rfl⟩ : ∃ q' : Nat, x = (q' : Int) := ⟨x.toNat, by omega⟩
    exact pursuit1_any G q' p r w.heap.size (w.heap.size + 1 + 1) (w.heap.size + 1) (tms G) l ml cv tv _ xv us us' W (HC.out.below hW) (HX.out.below hW) (fun p r => (tm_small _ p r).1) hup (by omega) hp hr (HE.out.next hW) (g0.below hW g0.lt) (nearv.cell_keep n0 hW) (nearv.cell_keep m0 hW)
  have HI := Lib.hid (indexFuncI_any _ mvs _ _ _ _ HR.out (by omega) HFN.out)
  rw [HIX.out] at HI
  clear hno hkq hL hqP hqB hmr h hx hE hu c0 hru hcr f0 hb0 g0 g1 g2 h1 hmll hml hmsh
  go_enter Tryd.func39, Tryd.ntmps39
  go_wp2_with fail
  refine HI.out.mono ?_
  rintro e w2 ⟨rfl, b2⟩
  have b3 := btrans HB0.out b2
  have f1 := nearv.cell_keep HF0.out b3
  go_wp2_with fail
  go_ret
  exact ⟨ret_int HL.out.symm, b3⟩
end Go.Proofs.YtgbdgenlmmofeaaDoor.times
