/- Capture proofs: the contract of the program's hasRows. -/
import Derived.Handy
import Derived.Test.YtjcnngnahijceaaC01
import Derived.Test.YtjcnngnahijceaaIdx
import Derived.Deep.DeepCutAuto
import Derived.Deep.RegionHeld3
import Derived.Deep.QuietTactic
import Derived.Test.YtjcnngnahijceaaFunc
namespace Go.Proofs.Ytjcnngnahijceaa.cpfs
open Go.RowKit P2 words edges ints good adjs fns sets rets covs bitsI bags gridr mids grid reps apps times lists balls cops
set_option linter.unusedVariables false

/-- a table with a row for each list and a number for each node -/
def RwsP (P n : Nat) (tb : List (List Int)) : Prop := tb.length = P ∧ ∀ r ∈ tb, r.length = n
theorem rowClo_any (u : Value) (r : List Int) (n g c : Nat) (A : Option Addr) (w : World) (hu : Ints w u r) (h0 : w.cell? ⟨g, 0, none⟩ = some (.slice A n c)) :
    Calls Try.prog 133 #[u, .pointer (some ⟨g, 0, none⟩)] w fun e w' => e = .returned (.bool (decide (r.length ≠ n))) ∧ w = w' := by
  obtain ⟨A2, c2, rfl, -⟩ := hu.form
  clear hu
  by_cases hd : r.length = n
  · have h1 : (r.length : Int) = (n : Int) := by omega
    have hv : decide (r.length ≠ n) = false := decide_eq_false (fun h => h hd)
    rw [hv]
    clear hd hv
    go_enter Try.func133, Try.ntmps133
    go_wp2_with fail
    go_ret
    exact ⟨ret_bool (by simp), rfl⟩
  · have h1 : ¬ (r.length : Int) = (n : Int) := by omega
    have hv : decide (r.length ≠ n) = true := decide_eq_true hd
    rw [hv]
    go_enter Try.func133, Try.ntmps133
    go_wp2_with fail
    go_ret
    exact ⟨ret_bool (by simp; omega), rfl⟩
set_option maxHeartbeats 1000000 in
set_option maxRecDepth 100000 in
theorem hasRows_any (P n cc ct : Nat) (Ac At : Option Addr) (mv xv u : Value) (us : List Value) (tb : List (List Int)) (w : World) (hm : ∃ A m c, mv = .slice A m c) (hx : ∃ A m c, xv = .slice A m c) (ht : ReadsG w u us tb) (htl : tb.length ≤ 1048576) :
    Calls Try.prog 87 #[.agg #[.slice Ac n cc, .slice At P ct, mv, xv], u] w fun e w' => e = .returned (.bool (okG (RwsP P n tb))) ∧ Below w.heap.size w w' := by
  obtain ⟨Am, lm, cm, rfl⟩ := hm
  obtain ⟨Ax, lx, cx, rfl⟩ := hx
  obtain ⟨A2, c2, rfl, -⟩ := ht.1
  have b0 : Below w.heap.size w (w.alloc (.cells #[.slice Ac n cc, .slice At P ct, .slice Am lm cm, .slice Ax lx cx] 95)) := (Below.refl _ _).alloc (Nat.le_refl _) _
  have g0 := Blk.new w 95 #[.slice Ac n cc, .slice At P ct, .slice Am lm cm, .slice Ax lx cx]
  have p0 := g0.cell 0
  have p1 := g0.cell 1
  have p2 := g0.cell 2
  have p3 := g0.cell 3
  have HFN : Hid (idx.FnG (w.alloc (.cells #[.slice Ac n cc, .slice At P ct, .slice Am lm cm, .slice Ax lx cx] 95)) 133 #[.pointer (some ⟨w.heap.size, 0, none⟩)] us tb (fun r => decide (r.length ≠ n))) :=
    { enter := fun _ _ => by kernel_rfl
      call := fun W hW k x r hx hr => by
        obtain ⟨u', g5, o5, hu', _, _, hri⟩ := (ht.below (btrans b0 hW)).row hr
        rw [hx] at hu'
        cases hu'
        exact (rowClo_any x r n w.heap.size cc Ac W hri (nearv.cell_keep p0 hW)).mono fun _ _ ⟨he, hw⟩ => ⟨he, hw ▸ Below.refl _ _⟩ }
  have HCF := Lib.hid (idx.containsFuncG_any _ us tb _ _ _ _ (ht.below b0) htl HFN.out)
  have HB0 := Lib.hid b0
  by_cases hl : tb.length = P
  · have h1 : (tb.length : Int) = (P : Int) := by omega
    have h2 : decide ((tb.length : Int) = (P : Int)) = true := decide_eq_true h1
    have HV : Hid (okG (RwsP P n tb) = !(tb.any fun r => decide (r.length ≠ n))) := by
      show _ = _
      cases ha : tb.any fun r => decide (r.length ≠ n) with
      | true =>
        refine okG_no fun h => ?_
        obtain ⟨r, hr, hn⟩ := List.any_eq_true.1 ha
        exact (of_decide_eq_true hn) (h.2 r hr)
      | false =>
        refine okG_yes ⟨hl, fun r hr => ?_⟩
        have := List.any_eq_false.1 ha r hr
        simpa using this
    clear ht b0 g0 hl
    generalize (tb.any fun r => decide (r.length ≠ n)) = av at *
    go_enter Try.func87, Try.ntmps87
    go_wp2_with fail
    refine HCF.out.mono ?_
    rintro e w1 ⟨rfl, b1⟩
    go_wp2_with fail
    go_ret
    rw [HV.out]
    exact ⟨rfl, btrans HB0.out b1⟩
  · have h1 : ¬ (tb.length : Int) = (P : Int) := by omega
    have h2 : decide ((tb.length : Int) = (P : Int)) = false := decide_eq_false h1
    have HV : Hid (okG (RwsP P n tb) = false) := okG_no fun h => hl h.1
    clear ht b0 g0 hl
    go_enter Try.func87, Try.ntmps87
    go_wp2_with fail
    go_ret
    rw [HV.out]
    exact ⟨rfl, HB0.out⟩
end Go.Proofs.Ytjcnngnahijceaa.cpfs

/- Capture proofs: the contracts of the closures of the program's isProven. -/
namespace Go.Proofs.Ytjcnngnahijceaa.cpfs
open Go.RowKit P2 words edges ints good adjs fns sets rets covs bitsI bags gridr mids grid reps apps times lists balls cops
set_option linter.unusedVariables false

/-- a node at which the robber is not caught within the number -/
def escB (T : Nat → Nat → Int) (nv : Int) (q x : Nat) : Bool := decide (T q x < 0) || decide (nv ≤ T q x)
set_option maxHeartbeats 1000000 in
set_option maxRecDepth 100000 in
theorem escClo_any (P n q x gt gq gn : Nat) (nv : Int) (T : Nat → Nat → Int) (t : Value) (us : List Value) (w : World) (ht : ReadsG w t us (gridG P n T)) (h1 : w.cell? ⟨gt, 0, none⟩ = some t) (h2 : w.cell? ⟨gq, 0, none⟩ = some (.int .i64 (q : Int))) (h3 : w.cell? ⟨gn, 0, none⟩ = some (.int .i64 nv)) (hq : q < P) (hx : x < n) :
    Calls Try.prog 135 #[.int .i64 (x : Int), .pointer (some ⟨gt, 0, none⟩), .pointer (some ⟨gq, 0, none⟩), .pointer (some ⟨gn, 0, none⟩)] w fun e w' => e = .returned (.bool (escB T nv q x)) ∧ Below w.heap.size w w' := by
  obtain ⟨At, ct, rfl, -⟩ := ht.1
  obtain ⟨u1, g1, o1, hu1, rfl, c1, hri⟩ := ht.row (gridG_at (T := T) (n := n) hq)
  obtain ⟨A2, c2, rfl, hc2⟩ := hri.form
  obtain ⟨g2, o2, rfl, d2⟩ := hc2 x _ (rowG_at hx)
  rw [gridG_len] at *
  rw [rowG_len] at c1
  have hqP : (q : Int) < (P : Int) := by omega
  have hxn : (x : Int) < (n : Int) := by omega
  have HB0 : Hid (Below w.heap.size w w) := Below.refl _ _
  clear ht hu1 hri hc2
  by_cases ha : T q x < 0
  · have d0 : decide (T q x < 0) = true := decide_eq_true ha
    have HV : Hid (escB T nv q x = true) := by show _ = _; unfold escB; rw [d0]; rfl
    rw [HV.out]
    generalize T q x = tv at *
    clear ha
    go_enter Try.func135, Try.ntmps135
    go_wp2_with fail
    go_quiet (fail)
    go_wp2_with fail
    go_ret
    exact ⟨rfl, below_drewN HB0.out _⟩
  · have d0 : decide (T q x < 0) = false := decide_eq_false ha
    have HV : Hid (escB T nv q x = decide (nv ≤ T q x)) := by show _ = _; unfold escB; rw [d0]; rfl
    rw [HV.out]
    generalize T q x = tv at *
    clear ha
    go_enter Try.func135, Try.ntmps135
    go_wp2_with fail
    go_quiet (fail)
    go_wp2_with fail
    go_ret
    exact ⟨rfl, below_drewN HB0.out _⟩
end Go.Proofs.Ytjcnngnahijceaa.cpfs

/- Capture proofs: the contract of the closure of the program's isProven. -/
namespace Go.Proofs.Ytjcnngnahijceaa.cpfs
open Go.RowKit P2 words edges ints good adjs fns sets rets covs bitsI bags gridr mids grid reps apps times lists balls cops func
set_option linter.unusedVariables false

set_option maxHeartbeats 2000000 in
set_option maxRecDepth 100000 in
theorem prvClo_any (P n q r gg gr gf gt gn : Nat) (nv : Int) (tk : Nat → Nat → Bool) (T : Nat → Nat → Int) (cv tv mv t fv : Value) (fl : List Int) (us : List Value) (w : World) (htk : Nums w tv (codesL P n tk)) (ht : ReadsG w t us (gridG P n T)) (hf : Ints w fv fl) (hfl : fl.length ≤ 8) (hfn : ∀ x ∈ fl, 0 ≤ x ∧ x < (n : Int))
    (h0 : w.cell? ⟨gg, 1, none⟩ = some tv) (h1 : w.cell? ⟨gr, 0, none⟩ = some (.int .i64 (r : Int))) (h2 : w.cell? ⟨gf, 0, none⟩ = some fv) (h3 : w.cell? ⟨gt, 0, none⟩ = some t) (h4 : w.cell? ⟨gn, 0, none⟩ = some (.int .i64 nv)) (hq : q < P) (hr : r < n) (hn : n ≤ 8) :
    Calls Try.prog 134 #[.int .i64 (q : Int), .pointer (some ⟨gg, 0, none⟩), .pointer (some ⟨gr, 0, none⟩), .pointer (some ⟨gf, 0, none⟩), .pointer (some ⟨gt, 0, none⟩), .pointer (some ⟨gn, 0, none⟩)] w fun e w' => e = .returned (.bool (tk q r || !(fl.any fun x => escB T nv q x.toNat))) ∧ Below w.heap.size w w' := by
  obtain ⟨At, ct, rfl, hct⟩ := htk.form
  obtain ⟨g5, o5, rfl, e5⟩ := hct q _ (show (codesL P n tk)[q]? = some (numOf (tk q) n) by simp [codesL, hq])
  obtain ⟨Af, cf, rfl, -⟩ := hf.form
  rw [codesL_len] at *
  have b0 : Below w.heap.size w (w.alloc (.cells #[.int .i64 (q : Int)] 3)) := (Below.refl _ _).alloc (Nat.le_refl _) _
  obtain ⟨p0, -⟩ := (Blk.new w 3 #[.int .i64 (q : Int)]).one
  have HP0 := Lib.hid p0
  have hbit : (numOf (tk q) n).testBit r = tk q r := by rw [numOf_bit, decide_eq_true hr]; rfl
  have HHA := Lib.hid (fun (W : World) => has_any (numOf (tk q) n) r W (by have := numOf_lt (tk q) hn; omega) (by omega))
  rw [hbit] at HHA
  have HFN := Lib.hid (fun (W : World) (hW : Below (w.alloc (.cells #[.int .i64 (q : Int)] 3)).heap.size (w.alloc (.cells #[.int .i64 (q : Int)] 3)) W) => (show FnI W 135 #[.pointer (some ⟨gt, 0, none⟩), .pointer (some ⟨w.heap.size, 0, none⟩), .pointer (some ⟨gn, 0, none⟩)] fl (fun x => escB T nv q x.toNat) from
    { enter := fun _ _ => by kernel_rfl
      call := fun W2 hW2 y hy => by
        obtain ⟨y1, y2⟩ := hfn y hy
        obtain ⟨z, rfl⟩ : ∃ z : Nat, y = (z : Int) := ⟨y.toNat, by omega⟩
        rw [Int.toNat_natCast]
        exact escClo_any P n q z gt w.heap.size gn nv T t us W2 (ht.below (btrans b0 (btrans hW hW2))) (nearv.cell_keep h3 (btrans b0 (btrans hW hW2))) (nearv.cell_keep HP0.out (btrans hW hW2)) (nearv.cell_keep h4 (btrans b0 (btrans hW hW2))) hq (by omega) }))
  have HCF := Lib.hid (fun (W : World) (hW : Below (w.alloc (.cells #[.int .i64 (q : Int)] 3)).heap.size (w.alloc (.cells #[.int .i64 (q : Int)] 3)) W) => containsFuncI_any (.slice Af fl.length cf) fl _ _ _ W (hf.below (btrans b0 hW)) (by omega) (HFN.out W hW))
  have HB0 := Lib.hid b0
  have s0 := nearv.cell_keep h0 b0
  have s1 := nearv.cell_keep h1 b0
  have s2 := nearv.cell_keep h2 b0
  have s5 := nearv.cell_keep e5 b0
  have hqP : (q : Int) < (P : Int) := by omega
  have HC := Lib.hid (show _ ∧ _ ∧ _ ∧ _ ∧ _ from ⟨s0, p0, s5, s1, s2⟩)
  clear htk ht hf hct HFN h0 h1 h2 h3 h4 e5 b0 hbit HP0
  generalize numOf (tk q) n = nm at *
  generalize (fl.any fun x => escB T nv q x.toNat) = av at *
  obtain ⟨wx, hwx⟩ : ∃ wx, wx = w.alloc (.cells #[.int .i64 (q : Int)] 3) := ⟨_, rfl⟩
  rw [← hwx] at s0 s1 s2 s5 p0 HB0 HCF
  clear HC
  cases hb : tk q r with
  | true =>
    rw [hb] at HHA
    rw [Bool.true_or]
    go_enter Try.func134, Try.ntmps134
    go_wp2_with fail
    rw [← hwx]
    clear hwx
    refine wp_region_held_drew (S := (fun W : World => W.cell? ⟨gg, 1, none⟩ = some (.slice (some ⟨g5, o5, none⟩) P ct) ∧ W.cell? ⟨w.heap.size, 0, none⟩ = some (.int .i64 (q : Int)) ∧ W.cell? ⟨g5, o5 + q, none⟩ = some (.int .u64 (nm : Int)) ∧ W.cell? ⟨gr, 0, none⟩ = some (.int .i64 (r : Int)) ∧ W.cell? ⟨gf, 0, none⟩ = some (.slice Af fl.length cf))) (by kernel_rfl) (by (try dsimp only); simp [*]) (fun hHeld => ?_)
    change wpAnyH _ _ _ _ _ _ #[false, false, false, false, false, false, false, false, false, false, false, false, false, false] _ _
    refine wpAnyH_take (i := 0) (oi := ⟨some 8, _, _, _, _, _⟩) (v := ?_) rfl (by kernel_rfl) (by kernel_rfl) (by kernel_rfl) (fun _ _ _ h => h) (Or.inl ⟨by rfl, ?_⟩) (by assumption) ?_
    rotate_left
    · (intro w hSw; (try dsimp only at hSw); go_simp; (try (with_reducible rfl)))
    try simp only [Act.put, List.setIfInBounds_toArray, List.set_cons_zero, List.set_cons_succ]
    refine wpAnyH_take (i := 1) (oi := ⟨some 9, _, _, _, _, _⟩) (v := ?_) rfl (by kernel_rfl) (by kernel_rfl) (by kernel_rfl) (fun _ _ _ h => h) (Or.inl ⟨by rfl, ?_⟩) (by assumption) ?_
    rotate_left
    · (intro w hSw; (try dsimp only at hSw); go_simp; (try (with_reducible rfl)))
    try simp only [Act.put, List.setIfInBounds_toArray, List.set_cons_zero, List.set_cons_succ]
    refine wpAnyH_take (i := 2) (oi := ⟨some 10, _, _, _, _, _⟩) (v := ?_) rfl (by kernel_rfl) (by kernel_rfl) (by kernel_rfl) (fun _ _ _ h => h) (Or.inl ⟨by rfl, ?_⟩) (by assumption) ?_
    rotate_left
    · (intro w hSw; (try dsimp only at hSw); go_simp; (try (with_reducible rfl)))
    try simp only [Act.put, List.setIfInBounds_toArray, List.set_cons_zero, List.set_cons_succ]
    refine wpAnyH_take (i := 3) (oi := ⟨some 11, _, _, _, _, _⟩) (v := ?_) rfl (by kernel_rfl) (by kernel_rfl) (by kernel_rfl) (fun _ _ _ h => h) (Or.inl ⟨by rfl, ?_⟩) (by assumption) ?_
    rotate_left
    · (intro w hSw; (try dsimp only at hSw); go_simp; (try (with_reducible rfl)))
    try simp only [Act.put, List.setIfInBounds_toArray, List.set_cons_zero, List.set_cons_succ]
    refine wpAnyH_take (i := 4) (oi := ⟨some 12, _, _, _, _, _⟩) (v := ?_) rfl (by kernel_rfl) (by kernel_rfl) (by kernel_rfl) (fun _ _ _ h => h) (Or.inl ⟨by rfl, ?_⟩) (by assumption) ?_
    rotate_left
    · (intro w hSw; (try dsimp only at hSw); go_simp; (try (with_reducible rfl)))
    try simp only [Act.put, List.setIfInBounds_toArray, List.set_cons_zero, List.set_cons_succ]
    refine wpAnyH_take (i := 5) (oi := ⟨some 13, _, _, _, _, _⟩) (v := ?_) rfl (by kernel_rfl) (by kernel_rfl) (by kernel_rfl) (fun _ _ _ h => h) (Or.inl ⟨by rfl, ?_⟩) (by assumption) ?_
    rotate_left
    · (intro w hSw; (try dsimp only at hSw); go_simp; (try (with_reducible rfl)))
    try simp only [Act.put, List.setIfInBounds_toArray, List.set_cons_zero, List.set_cons_succ]
    refine wpAnyH_ready (rs := [6]) (by kernel_rfl) (by simp) ?_
    refine AllReadyH.cons (o := ⟨some 14, _, _, _, _, _⟩) rfl (fun K hK => ?_) AllReadyH.nil
    go_simp
    (with_reducible refine (HHA.out wx.drew).mono ?_); rintro e w4 ⟨rfl, rfl⟩
    go_wp2_with fail
    refine hK.out _ _ (by (try dsimp only); simp [*]) (fun hHeld => ?_)
    clear hK K
    try simp only [List.setIfInBounds_toArray, List.set_cons_zero, List.set_cons_succ]
    refine wpAnyH_take (i := 7) (oi := ⟨some 15, _, _, _, _, _⟩) (v := ?_) rfl (by kernel_rfl) (by kernel_rfl) (by kernel_rfl) (fun _ _ _ h => h) (Or.inl ⟨by rfl, ?_⟩) (by assumption) ?_
    rotate_left
    · (intro w hSw; (try dsimp only at hSw); go_simp; (try (with_reducible rfl)))
    try simp only [Act.put, List.setIfInBounds_toArray, List.set_cons_zero, List.set_cons_succ]
    refine wpAnyH_take (i := 8) (oi := ⟨some 16, _, _, _, _, _⟩) (v := undef) rfl (by kernel_rfl) (by kernel_rfl) (by kernel_rfl) (fun _ _ _ h => h) (Or.inr ⟨by rfl, rfl⟩) (by assumption) ?_
    try simp only [Act.put, List.setIfInBounds_toArray, List.set_cons_zero, List.set_cons_succ]
    refine wpAnyH_take (i := 9) (oi := ⟨some 17, _, _, _, _, _⟩) (v := undef) rfl (by kernel_rfl) (by kernel_rfl) (by kernel_rfl) (fun _ _ _ h => h) (Or.inr ⟨by rfl, rfl⟩) (by assumption) ?_
    try simp only [Act.put, List.setIfInBounds_toArray, List.set_cons_zero, List.set_cons_succ]
    refine wpAnyH_take (i := 10) (oi := ⟨some 18, _, _, _, _, _⟩) (v := undef) rfl (by kernel_rfl) (by kernel_rfl) (by kernel_rfl) (fun _ _ _ h => h) (Or.inr ⟨by rfl, rfl⟩) (by assumption) ?_
    try simp only [Act.put, List.setIfInBounds_toArray, List.set_cons_zero, List.set_cons_succ]
    refine wpAnyH_take (i := 11) (oi := ⟨some 19, _, _, _, _, _⟩) (v := undef) rfl (by kernel_rfl) (by kernel_rfl) (by kernel_rfl) (fun _ _ _ h => h) (Or.inr ⟨by rfl, rfl⟩) (by assumption) ?_
    try simp only [Act.put, List.setIfInBounds_toArray, List.set_cons_zero, List.set_cons_succ]
    refine wpAnyH_take (i := 12) (oi := ⟨some 20, _, _, _, _, _⟩) (v := ?_) rfl (by kernel_rfl) (by kernel_rfl) (by kernel_rfl) (fun _ _ _ h => h) (Or.inl ⟨by rfl, ?_⟩) (by assumption) ?_
    rotate_left
    · (intro w hSw; (try dsimp only at hSw); go_simp; (try (with_reducible rfl)))
    try simp only [Act.put, List.setIfInBounds_toArray, List.set_cons_zero, List.set_cons_succ]
    refine wpAnyH_take (i := 13) (oi := ⟨some 7, _, _, _, _, _⟩) (v := ?_) rfl (by kernel_rfl) (by kernel_rfl) (by kernel_rfl) (fun _ _ _ h => h) (Or.inl ⟨by rfl, ?_⟩) (by assumption) ?_
    rotate_left
    · (intro w hSw; (try dsimp only at hSw); go_simp; (try (with_reducible rfl)))
    try simp only [Act.put, List.setIfInBounds_toArray, List.set_cons_zero, List.set_cons_succ]
    refine wpAnyH_done (by kernel_rfl) ?_ _
    go_wp2_with fail
    go_ret
    exact ⟨rfl, HB0.out.drew⟩
  | false =>
    rw [hb] at HHA
    rw [Bool.false_or]
    go_enter Try.func134, Try.ntmps134
    go_wp2_with fail
    rw [← hwx]
    clear hwx
    refine wp_region_held_drew (S := (fun W : World => W.cell? ⟨gg, 1, none⟩ = some (.slice (some ⟨g5, o5, none⟩) P ct) ∧ W.cell? ⟨w.heap.size, 0, none⟩ = some (.int .i64 (q : Int)) ∧ W.cell? ⟨g5, o5 + q, none⟩ = some (.int .u64 (nm : Int)) ∧ W.cell? ⟨gr, 0, none⟩ = some (.int .i64 (r : Int)) ∧ W.cell? ⟨gf, 0, none⟩ = some (.slice Af fl.length cf))) (by kernel_rfl) (by (try dsimp only); simp [*]) (fun hHeld => ?_)
    change wpAnyH _ _ _ _ _ _ #[false, false, false, false, false, false, false, false, false, false, false, false, false, false] _ _
    refine wpAnyH_take (i := 0) (oi := ⟨some 8, _, _, _, _, _⟩) (v := ?_) rfl (by kernel_rfl) (by kernel_rfl) (by kernel_rfl) (fun _ _ _ h => h) (Or.inl ⟨by rfl, ?_⟩) (by assumption) ?_
    rotate_left
    · (intro w hSw; (try dsimp only at hSw); go_simp; (try (with_reducible rfl)))
    try simp only [Act.put, List.setIfInBounds_toArray, List.set_cons_zero, List.set_cons_succ]
    refine wpAnyH_take (i := 1) (oi := ⟨some 9, _, _, _, _, _⟩) (v := ?_) rfl (by kernel_rfl) (by kernel_rfl) (by kernel_rfl) (fun _ _ _ h => h) (Or.inl ⟨by rfl, ?_⟩) (by assumption) ?_
    rotate_left
    · (intro w hSw; (try dsimp only at hSw); go_simp; (try (with_reducible rfl)))
    try simp only [Act.put, List.setIfInBounds_toArray, List.set_cons_zero, List.set_cons_succ]
    refine wpAnyH_take (i := 2) (oi := ⟨some 10, _, _, _, _, _⟩) (v := ?_) rfl (by kernel_rfl) (by kernel_rfl) (by kernel_rfl) (fun _ _ _ h => h) (Or.inl ⟨by rfl, ?_⟩) (by assumption) ?_
    rotate_left
    · (intro w hSw; (try dsimp only at hSw); go_simp; (try (with_reducible rfl)))
    try simp only [Act.put, List.setIfInBounds_toArray, List.set_cons_zero, List.set_cons_succ]
    refine wpAnyH_take (i := 3) (oi := ⟨some 11, _, _, _, _, _⟩) (v := ?_) rfl (by kernel_rfl) (by kernel_rfl) (by kernel_rfl) (fun _ _ _ h => h) (Or.inl ⟨by rfl, ?_⟩) (by assumption) ?_
    rotate_left
    · (intro w hSw; (try dsimp only at hSw); go_simp; (try (with_reducible rfl)))
    try simp only [Act.put, List.setIfInBounds_toArray, List.set_cons_zero, List.set_cons_succ]
    refine wpAnyH_take (i := 4) (oi := ⟨some 12, _, _, _, _, _⟩) (v := ?_) rfl (by kernel_rfl) (by kernel_rfl) (by kernel_rfl) (fun _ _ _ h => h) (Or.inl ⟨by rfl, ?_⟩) (by assumption) ?_
    rotate_left
    · (intro w hSw; (try dsimp only at hSw); go_simp; (try (with_reducible rfl)))
    try simp only [Act.put, List.setIfInBounds_toArray, List.set_cons_zero, List.set_cons_succ]
    refine wpAnyH_take (i := 5) (oi := ⟨some 13, _, _, _, _, _⟩) (v := ?_) rfl (by kernel_rfl) (by kernel_rfl) (by kernel_rfl) (fun _ _ _ h => h) (Or.inl ⟨by rfl, ?_⟩) (by assumption) ?_
    rotate_left
    · (intro w hSw; (try dsimp only at hSw); go_simp; (try (with_reducible rfl)))
    try simp only [Act.put, List.setIfInBounds_toArray, List.set_cons_zero, List.set_cons_succ]
    refine wpAnyH_ready (rs := [6]) (by kernel_rfl) (by simp) ?_
    refine AllReadyH.cons (o := ⟨some 14, _, _, _, _, _⟩) rfl (fun K hK => ?_) AllReadyH.nil
    go_simp
    (with_reducible refine (HHA.out wx.drew).mono ?_); rintro e w4 ⟨rfl, rfl⟩
    go_wp2_with fail
    refine hK.out _ _ (by (try dsimp only); simp [*]) (fun hHeld => ?_)
    clear hK K
    try simp only [List.setIfInBounds_toArray, List.set_cons_zero, List.set_cons_succ]
    refine wpAnyH_take (i := 7) (oi := ⟨some 15, _, _, _, _, _⟩) (v := ?_) rfl (by kernel_rfl) (by kernel_rfl) (by kernel_rfl) (fun _ _ _ h => h) (Or.inl ⟨by rfl, ?_⟩) (by assumption) ?_
    rotate_left
    · (intro w hSw; (try dsimp only at hSw); go_simp; (try (with_reducible rfl)))
    try simp only [Act.put, List.setIfInBounds_toArray, List.set_cons_zero, List.set_cons_succ]
    refine wpAnyH_take (i := 8) (oi := ⟨some 16, _, _, _, _, _⟩) (v := ?_) rfl (by kernel_rfl) (by kernel_rfl) (by kernel_rfl) (fun _ _ _ h => h) (Or.inl ⟨by rfl, ?_⟩) (by assumption) ?_
    rotate_left
    · (intro w hSw; (try dsimp only at hSw); go_simp; (try (with_reducible rfl)))
    try simp only [Act.put, List.setIfInBounds_toArray, List.set_cons_zero, List.set_cons_succ]
    refine wpAnyH_take (i := 9) (oi := ⟨some 17, _, _, _, _, _⟩) (v := ?_) rfl (by kernel_rfl) (by kernel_rfl) (by kernel_rfl) (fun _ _ _ h => h) (Or.inl ⟨by rfl, ?_⟩) (by assumption) ?_
    rotate_left
    · (intro w hSw; (try dsimp only at hSw); go_simp; (try (with_reducible rfl)))
    try simp only [Act.put, List.setIfInBounds_toArray, List.set_cons_zero, List.set_cons_succ]
    refine wpAnyH_ready (rs := [10]) (by kernel_rfl) (by simp) ?_
    refine AllReadyH.cons (o := ⟨some 18, _, _, _, _, _⟩) rfl (fun K hK => ?_) AllReadyH.nil
    go_simp
    (with_reducible refine (HCF.out wx.drew (Below.refl _ _).drew).mono ?_); rintro e w5 ⟨rfl, b5⟩; have d5 : Below wx.heap.size wx w5 := btrans (Below.refl _ _).drew b5; have k0 := nearv.cell_keep s0 d5; have k1 := nearv.cell_keep p0 d5; have k2 := nearv.cell_keep s5 d5; have k3 := nearv.cell_keep s1 d5; have k4 := nearv.cell_keep s2 d5
    go_wp2_with fail
    refine hK.out _ _ (by (try dsimp only); simp [*]) (fun hHeld => ?_)
    clear hK K
    try simp only [List.setIfInBounds_toArray, List.set_cons_zero, List.set_cons_succ]
    refine wpAnyH_take (i := 11) (oi := ⟨some 19, _, _, _, _, _⟩) (v := ?_) rfl (by kernel_rfl) (by kernel_rfl) (by kernel_rfl) (fun _ _ _ h => h) (Or.inl ⟨by rfl, ?_⟩) (by assumption) ?_
    rotate_left
    · (intro w hSw; (try dsimp only at hSw); go_simp; (try (with_reducible rfl)))
    try simp only [Act.put, List.setIfInBounds_toArray, List.set_cons_zero, List.set_cons_succ]
    refine wpAnyH_take (i := 12) (oi := ⟨some 20, _, _, _, _, _⟩) (v := ?_) rfl (by kernel_rfl) (by kernel_rfl) (by kernel_rfl) (fun _ _ _ h => h) (Or.inl ⟨by rfl, ?_⟩) (by assumption) ?_
    rotate_left
    · (intro w hSw; (try dsimp only at hSw); go_simp; (try (with_reducible rfl)))
    try simp only [Act.put, List.setIfInBounds_toArray, List.set_cons_zero, List.set_cons_succ]
    refine wpAnyH_take (i := 13) (oi := ⟨some 7, _, _, _, _, _⟩) (v := ?_) rfl (by kernel_rfl) (by kernel_rfl) (by kernel_rfl) (fun _ _ _ h => h) (Or.inl ⟨by rfl, ?_⟩) (by assumption) ?_
    rotate_left
    · (intro w hSw; (try dsimp only at hSw); go_simp; (try (with_reducible rfl)))
    try simp only [Act.put, List.setIfInBounds_toArray, List.set_cons_zero, List.set_cons_succ]
    refine wpAnyH_done (by kernel_rfl) ?_ _
    have HB5 := Lib.hid (btrans HB0.out d5)
    clear hHeld k0 k1 k2 k3 k4 b5 d5
    go_wp2_with fail
    go_ret
    exact ⟨rfl, HB5.out⟩
end Go.Proofs.Ytjcnngnahijceaa.cpfs
