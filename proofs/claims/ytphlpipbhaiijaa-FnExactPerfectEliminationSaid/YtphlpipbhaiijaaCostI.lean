/- The contract of the program's leastCosts. -/
import Derived.Handy
import Derived.Test.YtphlpipbhaiijaaCostM
import Derived.Test.YtphlpipbhaiijaaRepB
import Derived.Test.YtphlpipbhaiijaaGridL
import Derived.Test.YtphlpipbhaiijaaFrontM
import Derived.Test.YtphlpipbhaiijaaOwn
import Derived.Deep.DeepCutAuto
import Derived.Deep.RegionHeld3
namespace Go.Proofs.Ytphlpipbhaiijaa.costs
open Go.RowKit P2 words edges ints good adjs fns sets rets covs reach bags bitsI fronts
set_option linter.unusedVariables false

def maxI : Int := 9223372036854775807
def rowF (N : Nat) (C : Nat → Int) : List Int := (List.range N).map C
theorem rowF_len (N : Nat) (C : Nat → Int) : (rowF N C).length = N := by simp [rowF]
theorem rowF_at {N i : Nat} {C : Nat → Int} (h : i < N) : (rowF N C)[i]? = some (C i) := by simp [rowF, h]
def upd (C : Nat → Int) (i : Nat) (v : Int) : Nat → Int := fun j => if j = i then v else C j
theorem upd_at (C : Nat → Int) (i : Nat) (v : Int) : upd C i v i = v := by simp [upd]
theorem upd_ne (C : Nat → Int) {i j : Nat} (v : Int) (h : j ≠ i) : upd C i v j = C j := by simp [upd, h]
theorem upd_upd (C : Nat → Int) (i : Nat) (v u : Int) : upd (upd C i v) i u = upd C i u := by funext j; unfold upd; split <;> rfl
theorem upd_self (C : Nat → Int) (i : Nat) : upd C i (C i) = C := by funext j; unfold upd; split <;> simp_all
theorem rowF_set (N : Nat) (C : Nat → Int) (i : Nat) (v : Int) : (rowF N C).set i v = rowF N (upd C i v) := by
  unfold rowF
  apply List.ext_getElem?
  intro j
  rw [List.getElem?_set]
  by_cases hj : i = j
  · subst hj
    by_cases h : i < N <;> simp [h, upd_at]
  · rw [if_neg hj]
    by_cases h : j < N
    · simp [h, upd_ne C v (fun e => hj e.symm)]
    · simp [h]
theorem rowF_const (N : Nat) (v : Int) : List.replicate N v = rowF N (fun _ => v) := by unfold rowF; rw [List.map_const']; simp
theorem rowF_cells (N : Nat) (C : Nat → Int) (i : Nat) (v : Int) : (cellsI (rowF N C)).set i (.int .i64 v) = cellsI (rowF N (upd C i v)) := by rw [← rowF_set]; simp [cellsI, List.map_set]

theorem min_if (a b v : Int) : (if (if a < b then b else a) < v then (if a < b then b else a) else v) = min v (max a b) := by
  split <;> split <;> omega
/-- down to a set: those above it have their least costs, the others the greatest number -/
def LcUp (n : Nat) (cost : Nat → Nat → Int) (nil : Int) (g : Nat) (C : Nat → Int) : Prop :=
  C (2 ^ n - 1) = nil ∧ (∀ c, g ≤ c → c < 2 ^ n - 1 → LcAt n cost C c) ∧ (∀ c, c < g → C c = maxI) ∧ g ≤ 2 ^ n - 1 ∧ ∀ c, g ≤ c → c < 2 ^ n → C c ≤ 100
/-- the least so far of a set's -/
def PtAt (n : Nat) (cost : Nat → Nat → Int) (C : Nat → Int) (c x : Nat) (v : Int) : Prop :=
  (v = maxI ∨ ∃ y, y < x ∧ y < n ∧ c.testBit y = false ∧ v = max (cost c y) (C (c ||| 2 ^ y))) ∧ ∀ y, y < x → y < n → c.testBit y = false → v ≤ max (cost c y) (C (c ||| 2 ^ y))
theorem PtAt.start (n : Nat) (cost : Nat → Nat → Int) (C : Nat → Int) (c : Nat) : PtAt n cost C c 0 maxI := ⟨.inl rfl, fun y h => by omega⟩
theorem PtAt.skip {n : Nat} {cost : Nat → Nat → Int} {C : Nat → Int} {c x : Nat} {v : Int} (h : PtAt n cost C c x v) (hb : c.testBit x = true) : PtAt n cost C c (x + 1) v := by
  refine ⟨?_, fun y hy hn hby => ?_⟩
  · rcases h.1 with h1 | ⟨y, h1, h2⟩
    · exact .inl h1
    · exact .inr ⟨y, by omega, h2⟩
  · by_cases e : y = x
    · subst e; rw [hb] at hby; cases hby
    · exact h.2 y (by omega) hn hby
theorem PtAt.take {n : Nat} {cost : Nat → Nat → Int} {C : Nat → Int} {c x : Nat} {v u : Int} (h : PtAt n cost C c x v) (hx : x < n) (hb : c.testBit x = false) (hu : u = max (cost c x) (C (c ||| 2 ^ x))) : PtAt n cost C c (x + 1) (min v u) := by
  refine ⟨?_, fun y hy hn hby => ?_⟩
  · by_cases hvu : v ≤ u
    · rw [Int.min_eq_left hvu]
      rcases h.1 with h1 | ⟨y, h1, h2⟩
      · exact .inl h1
      · exact .inr ⟨y, by omega, h2⟩
    · rw [Int.min_eq_right (by omega)]
      exact .inr ⟨x, by omega, hx, hb, hu⟩
  · by_cases e : y = x
    · subst e; omega
    · have := h.2 y (by omega) hn hby; omega
theorem PtAt.all {n : Nat} {cost : Nat → Nat → Int} {nil : Int} {C : Nat → Int} {c : Nat} {v : Int} (hn : n ≤ 8) (hL : LcUp n cost nil (c + 1) C) (h : PtAt n cost C c n v) (hcost : ∀ g x, cost g x ≤ 100) (hc : c < 2 ^ n - 1) : LcUp n cost nil c (upd C c v) := by
  have hp := pow8 hn
  obtain ⟨h1, h2, h3, h4, h5⟩ := hL
  have hor : ∀ y, y < n → c.testBit y = false → c < c ||| 2 ^ y ∧ c ||| 2 ^ y < 2 ^ n := fun y hy hb => ⟨or_gt (by omega) (by omega) hb, or_lt (by omega) hy⟩
  obtain ⟨z, hz, hzb⟩ := out_bit hn hc
  have hz1 := h.2 z hz hz hzb
  have hz2 := hor z hz hzb
  have hz3 := h5 _ hz2.1 hz2.2
  have hz4 := hcost c z
  have hv : v ≤ 100 := by omega
  refine ⟨by rw [upd_ne C v (by omega)]; exact h1, fun d hd hd2 => ?_, fun d hd => by rw [upd_ne C v (by omega)]; exact h3 d (by omega), by omega, fun d hd hd2 => ?_⟩
  · by_cases e : d = c
    · subst e
      refine ⟨?_, fun y hy hb => ?_⟩
      · rcases h.1 with h6 | ⟨y, _, h6, h7, h8⟩
        · exfalso; unfold maxI at h6; omega
        · refine ⟨y, h6, h7, ?_⟩
          rw [upd_at, upd_ne C v (by have := hor y h6 h7; omega)]; exact h8
      · rw [upd_at, upd_ne C v (by have := hor y hy hb; omega)]; exact h.2 y hy hy hb
    · have hdo : ∀ y, y < n → d.testBit y = false → d ||| 2 ^ y ≠ c := fun y hy hb => by have := or_gt (x := y) (by omega : d < 256) (by omega) hb; omega
      obtain ⟨⟨x, hx, hb, hC⟩, hle⟩ := h2 d (by omega) hd2
      refine ⟨⟨x, hx, hb, ?_⟩, fun y hy hby => ?_⟩
      · rw [upd_ne C v e, upd_ne C v (hdo x hx hb)]; exact hC
      · rw [upd_ne C v e, upd_ne C v (hdo y hy hby)]; exact hle y hy hby
  · by_cases e : d = c
    · subst e; rw [upd_at]; exact hv
    · rw [upd_ne C v e]; exact h5 d (by omega) hd2
set_option maxHeartbeats 4000000 in
set_option maxRecDepth 100000 in
theorem leastCosts_any (n b : Nat) (nil : Int) (cost : Nat → Nat → Int) (fid : FuncId) (w : World) (hn : n ≤ 8) (hnil : nil ≤ 100) (hcost : ∀ g x, cost g x ≤ 100)
    (hent : ∀ (args : Array Value) (W : World), (callFunc fid args).run Try.prog W = .ok (.enter fid args) W)
    (HC : ∀ (W : World) (g x : Nat), Below w.heap.size w W → g < 2 ^ n → x < n → g.testBit x = false → Calls Try.prog fid #[.int .u64 (g : Int), .int .i64 (x : Int), .pointer (some ⟨b, 0, none⟩)] W fun e w' => e = .returned (.int .i64 (cost g x)) ∧ ∃ m, w' = W.drewN m) :
    Calls Try.prog 127 #[.int .i64 (n : Int), .int .i64 nil, .func (.func fid) #[] #[.pointer (some ⟨b, 0, none⟩)]] w fun e w' => ∃ A c C, e = .returned (.slice A (2 ^ n) c) ∧ w'.ownsRow w.heap.size 3 1 (.slice A (2 ^ n) c) (2 ^ n) (cellsI (rowF (2 ^ n) C)) ∧ LcUp n cost nil 0 C ∧ Below w.heap.size w w' := by
  have hp := pow8 hn
  have hp0 := Nat.two_pow_pos n
  obtain ⟨N, hN⟩ : ∃ N, N = 2 ^ n := ⟨_, rfl⟩
  have hsh : IntKind.i64.wrap ((2 : Int) ^ n) = (N : Int) := by
    rw [hN, show ((2 : Int) ^ n) = ((2 ^ n : Nat) : Int) from by simp]
    exact IntWalk.i64_in _ (by omega)
  have HRP := Lib.hid (fun (W : World) (g0 : Nat) (hx : W.cell? ⟨g0, 0, none⟩ = some (.int .i64 9223372036854775807)) => reps.repeat_big 9223372036854775807 g0 (2 ^ n) W hp hp0 (reps.mul_pow n hn) hx)
  simp only [List.length_replicate] at HRP
  rw [← hN] at HC HRP hp hp0 ⊢
  have HN := Lib.hid hN
  have HCL := Lib.hid HC
  have HCO := Lib.hid hcost
  have hb0 : Below w.heap.size w (w.alloc (.cells #[.int .i64 9223372036854775807] 3)) := (Below.refl _ _).alloc (Nat.le_refl _) _
  have HB0 := Lib.hid hb0
  have HX0 := Lib.hid ((Blk.new w 3 #[.int .i64 9223372036854775807]).cell 0)
  have hn0 : (0 : Int) ≤ (n : Int) := by omega
  clear HC hcost hb0 hN
  go_enter Try.func127, Try.ntmps127
  go_wp2_with fail
  refine (HRP.out _ _ HX0.out).mono ?_
  rintro e w1 ⟨A1, c1, rfl, o1, b1⟩
  have HB1 := Lib.hid (btrans HB0.out b1)
  have o2 := own_base o1 HB0.out.size
  rw [show cellsI (List.replicate N (9223372036854775807 : Int)) = cellsI (rowF N (fun _ => maxI)) from by rw [rowF_const]; rfl] at o2
  obtain ⟨g1, rfl⟩ : ∃ g1, A1 = some ⟨g1, 0, none⟩ := by
    rcases o2.2 with ⟨_, h1⟩ | ⟨g, cap, cur, h1, _⟩
    · omega
    · cases h1; exact ⟨g, rfl⟩
  have f0 := o2.cellAt (N - 1) (by omega)
  have hfl : (cellsI (rowF N (fun _ => maxI)))[N - 1]? = some (.int .i64 maxI) := cellsI_at (rowF_at (by omega))
  rw [hfl] at f0
  have z0 := o2.frozenAt (N - 1)
  have hN1 : (N : Int) - 1 = ((N - 1 : Nat) : Int) := by omega
  have hN2 : IntKind.i64.wrap ((N : Int) - 1) = ((N - 1 : Nat) : Int) := by rw [hN1]; exact IntWalk.i64_in _ (by omega)
  have hN3 : ((N - 1 : Nat) : Int) < (N : Int) := by omega
  have HO1 := Lib.hid o2
  clear o1 b1 o2 hfl HRP HX0 HB0
  go_wp2_with fail
  have hST := HO1.out.stored (N - 1) (.int .i64 nil)
  have HO2 : Hid ((w1.setCell ⟨g1, N - 1, none⟩ (.int .i64 nil)).ownsRow w.heap.size 3 1 (.slice (some ⟨g1, 0, none⟩) N c1) N (cellsI (rowF N (upd (fun _ => maxI) (N - 1) nil)))) := by
    have h_ := hST.1
    rw [rowF_cells] at h_
    exact h_
  have hgl := (HO1.out.lt g1 rfl).1
  have HB2 := Lib.hid (HB1.out.setCell (p := ⟨g1, N - 1, none⟩) hgl (.int .i64 nil))
  have HL0 : Hid (LcUp n cost nil (N - 1) (upd (fun _ => maxI) (N - 1) nil)) := by
    have e := HN.out
    refine ⟨by rw [← e, upd_at], fun c h1 h2 => by omega, fun c h1 => upd_ne _ _ (by omega), by omega, fun c h1 h2 => ?_⟩
    obtain rfl : c = N - 1 := by omega
    rw [upd_at]; exact hnil
  clear hST f0 z0 HO1 HB1
  go_loopg [8] (N - 1) (fun g iv wr => ∃ C : Nat → Int, iv = .int .i64 ((g : Int) - 1) ∧ wr.ownsRow w.heap.size 3 1 (.slice (some ⟨g1, 0, none⟩) N c1) N (cellsI (rowF N C)) ∧ Hid (LcUp n cost nil g C) ∧ Below w.heap.size w wr)
  case atStart => exact ⟨_, by rw [show (((N - 1 : Nat) : Int) - 1) = (N : Int) - 2 from by omega], HO2.out, HL0, HB2.out⟩
  case round =>
    clear HO2 HL0 HB2
    obtain ⟨C, rfl, hrow, hlc, hB⟩ := hrel
    cases gk with
    | zero =>
      have HR := Lib.hid hrow
      have HB := Lib.hid hB
      clear hrow hB
      go_wp2_with fail
      go_ret
      exact ⟨_, _, C, rfl, HR.out, hlc.out, HB.out⟩
    | succ i =>
      have hi : i + 1 ≤ N - 1 := by have := hlc.out.2.2.2.1; have := HN.out; omega
      rw [show (((i + 1 : Nat) : Int) - 1) = (i : Int) from by omega]
      have hi0 : (0 : Int) ≤ (i : Int) := by omega
      have hiN : (i : Int) < (N : Int) := by omega
      have hcv : IntKind.u64.wrap (i : Int) = (i : Int) := by rw [IntKind.wrap_u64]; omega
      have hiM : C i = maxI := hlc.out.2.2.1 i (by omega)
      have HR0 : Hid (wr.ownsRow w.heap.size 3 1 (.slice (some ⟨g1, 0, none⟩) N c1) N (cellsI (rowF N (upd C i maxI)))) := by
        rw [← hiM, upd_self]; exact hrow
      have HB := Lib.hid hB
      clear hrow hB hiM
      go_wp2_with fail
      go_loopg [31] n (fun g xv wr => ∃ (x : Nat) (v : Int), x + g = n ∧ xv = .int .i64 (x : Int) ∧ wr.ownsRow w.heap.size 3 1 (.slice (some ⟨g1, 0, none⟩) N c1) N (cellsI (rowF N (upd C i v))) ∧ Hid (PtAt n cost C i x v) ∧ Below w.heap.size w wr)
      case atStart => exact ⟨0, maxI, by omega, rfl, HR0.out, PtAt.start n cost C i, HB.out⟩
      case round =>
        clear HR0 HB
        obtain ⟨x, v, hxg, rfl, hrow, hpt, hB⟩ := hrel
        cases gk with
        | zero =>
          obtain rfl : x = n := by omega
          have HL9 : Hid (LcUp x cost nil i (upd C i v)) := PtAt.all hn hlc.out hpt.out HCO.out (by have := HN.out; omega)
          have HR := Lib.hid hrow
          have HB := Lib.hid hB
          clear hrow hB hpt
          go_wp2_with fail
          go_roundg i
          case measure => omega
          case rel => exact ⟨_, by go_num, HR.out, HL9, HB.out⟩
        | succ g4 =>
          have hlt : x < n := by omega
          have hlt' : (x : Int) < (n : Int) := by omega
          have HH := Lib.hid (has_any i x wr (by omega) (by omega))
          cases hb : i.testBit x with
          | true =>
            have HP := Lib.hid (hpt.out.skip hb)
            rw [hb] at HH
            have HR := Lib.hid hrow
            have HB := Lib.hid hB
            clear hb hrow hB hpt
            go_wp2_with fail
            refine HH.out.mono ?_
            rintro e w' ⟨rfl, rfl⟩
            go_wp2_with fail
            go_roundg g4
            case measure => omega
            case rel => exact ⟨x + 1, v, by omega, by go_num, HR.out, HP, HB.out⟩
          | false =>
            rw [hb] at HH
            have hNe := HN.out
            have hq1 := or_gt (by omega : i < 256) (by omega : x < 8) hb
            have hq2 := or_lt (n := n) (by omega : i < 2 ^ n) hlt
            rw [← hNe] at hq2
            have hor := or_walk i x (by omega) (by omega)
            have HCA := Lib.hid (HCL.out wr.drew i x hB.drew (by omega) hlt hb)
            have HP := Lib.hid (hpt.out.take hlt hb rfl)
            have f1 := hrow.cellAt i (by omega)
            rw [cellsI_at (rowF_at (by omega)), upd_at] at f1
            have z1 := hrow.frozenAt i
            have f2 := hrow.cellAt (i ||| 2 ^ x) (by omega)
            rw [cellsI_at (rowF_at hq2), upd_ne C v (by omega)] at f2
            have HR := Lib.hid hrow
            have HB := Lib.hid hB
            clear hb hrow hB hpt hNe
            generalize hqe : i ||| 2 ^ x = q at *
            generalize hue : C q = u at *
            generalize hce : cost i x = cc at *
            have hq2' : (q : Int) < (N : Int) := by omega
            have hq0 : (0 : Int) ≤ (q : Int) := by omega
            have HQI : Hid (q ≠ i) := by show _ ≠ _; omega
            have HK2 : Hid (∀ (W : World) (y : Value), W.cell? ⟨g1, q, none⟩ = some (.int .i64 u) → (W.setCell ⟨g1, i, none⟩ y).cell? ⟨g1, q, none⟩ = some (.int .i64 u)) := fun W y hW => by
              rw [World.cell?_setCell_other (h := fun e => HQI.out (congrArg Addr.off e).symm)]; exact hW
            have HQE := Lib.hid hqe
            have HUE := Lib.hid hue
            have HCE := Lib.hid hce
            clear hqe hue hce hq1
            go_wp2_with fail
            refine HH.out.mono ?_
            rintro e w' ⟨rfl, rfl⟩
            go_wp2_with fail
            refine wp_region_held_drew (S := (fun w' : World => w'.cell? ⟨g1, q, none⟩ = some (.int .i64 u))) (by kernel_rfl) (by (try dsimp only); simp [*]) (fun hHeld => ?_)
            change wpAnyH _ _ _ _ _ _ #[false, false, false, false, false, false, false, false, false, false, false, false, false, false, false, false, false, false, false, false, false] _ _
            refine wpAnyH_take (i := 0) (oi := ⟨some 38, _, _, _, _, _⟩) (v := ?_) rfl (by kernel_rfl) (by kernel_rfl) (by kernel_rfl) (fun _ _ _ h => h) (Or.inl ⟨by rfl, ?_⟩) (by assumption) ?_
            rotate_left
            · (intro w hSw; (try dsimp only at hSw); go_simp; (try (with_reducible rfl)))
            try simp only [Act.put, List.setIfInBounds_toArray, List.set_cons_zero, List.set_cons_succ]
            refine wpAnyH_take (i := 1) (oi := ⟨some 39, _, _, _, _, _⟩) (v := ?_) rfl (by kernel_rfl) (by kernel_rfl) (by kernel_rfl) (fun _ _ _ h => h) (Or.inl ⟨by rfl, ?_⟩) (by assumption) ?_
            rotate_left
            · (intro w hSw; (try dsimp only at hSw); go_simp; (try (with_reducible rfl)))
            try simp only [Act.put, List.setIfInBounds_toArray, List.set_cons_zero, List.set_cons_succ]
            refine wpAnyH_take (i := 2) (oi := ⟨some 40, _, _, _, _, _⟩) (v := ?_) rfl (by kernel_rfl) (by kernel_rfl) (by kernel_rfl) (fun _ _ _ h => h) (Or.inl ⟨by rfl, ?_⟩) (by assumption) ?_
            rotate_left
            · (intro w hSw; (try dsimp only at hSw); go_simp; (try (with_reducible rfl)))
            try simp only [Act.put, List.setIfInBounds_toArray, List.set_cons_zero, List.set_cons_succ]
            refine wpAnyH_take (i := 3) (oi := ⟨some 41, _, _, _, _, _⟩) (v := ?_) rfl (by kernel_rfl) (by kernel_rfl) (by kernel_rfl) (fun _ _ _ h => h) (Or.inl ⟨by rfl, ?_⟩) (by assumption) ?_
            rotate_left
            · (intro w hSw; (try dsimp only at hSw); go_simp; (try (with_reducible rfl)))
            try simp only [Act.put, List.setIfInBounds_toArray, List.set_cons_zero, List.set_cons_succ]
            refine wpAnyH_take (i := 4) (oi := ⟨some 42, _, _, _, _, _⟩) (v := ?_) rfl (by kernel_rfl) (by kernel_rfl) (by kernel_rfl) (fun _ _ _ h => h) (Or.inl ⟨by rfl, ?_⟩) (by assumption) ?_
            rotate_left
            · (intro w hSw; (try dsimp only at hSw); go_simp; (try (with_reducible rfl)))
            try simp only [Act.put, List.setIfInBounds_toArray, List.set_cons_zero, List.set_cons_succ]
            refine wpAnyH_take (i := 6) (oi := ⟨some 44, _, _, _, _, _⟩) (v := ?_) rfl (by kernel_rfl) (by kernel_rfl) (by kernel_rfl) (fun _ _ _ h => h) (Or.inl ⟨by rfl, ?_⟩) (by assumption) ?_
            rotate_left
            · (intro w hSw; (try dsimp only at hSw); go_simp; (try (with_reducible rfl)))
            try simp only [Act.put, List.setIfInBounds_toArray, List.set_cons_zero, List.set_cons_succ]
            refine wpAnyH_take (i := 7) (oi := ⟨some 45, _, _, _, _, _⟩) (v := ?_) rfl (by kernel_rfl) (by kernel_rfl) (by kernel_rfl) (fun _ _ _ h => h) (Or.inl ⟨by rfl, ?_⟩) (by assumption) ?_
            rotate_left
            · (intro w hSw; (try dsimp only at hSw); go_simp; (try (with_reducible rfl)))
            try simp only [Act.put, List.setIfInBounds_toArray, List.set_cons_zero, List.set_cons_succ]
            refine wpAnyH_take (i := 8) (oi := ⟨some 46, _, _, _, _, _⟩) (v := ?_) rfl (by kernel_rfl) (by kernel_rfl) (by kernel_rfl) (fun _ _ _ h => h) (Or.inl ⟨by rfl, ?_⟩) (by assumption) ?_
            rotate_left
            · (intro w hSw; (try dsimp only at hSw); go_simp; (try (with_reducible rfl)))
            try simp only [Act.put, List.setIfInBounds_toArray, List.set_cons_zero, List.set_cons_succ]
            refine wpAnyH_take (i := 10) (oi := ⟨some 48, _, _, _, _, _⟩) (v := ?_) rfl (by kernel_rfl) (by kernel_rfl) (by kernel_rfl) (fun _ _ _ h => h) (Or.inl ⟨by rfl, ?_⟩) (by assumption) ?_
            rotate_left
            · (intro w hSw; (try dsimp only at hSw); go_simp; (try (with_reducible rfl)))
            try simp only [Act.put, List.setIfInBounds_toArray, List.set_cons_zero, List.set_cons_succ]
            refine wpAnyH_take (i := 11) (oi := ⟨some 49, _, _, _, _, _⟩) (v := ?_) rfl (by kernel_rfl) (by kernel_rfl) (by kernel_rfl) (fun _ _ _ h => h) (Or.inl ⟨by rfl, ?_⟩) (by assumption) ?_
            rotate_left
            · (intro w hSw; (try dsimp only at hSw); go_simp; (try (with_reducible rfl)))
            try simp only [Act.put, List.setIfInBounds_toArray, List.set_cons_zero, List.set_cons_succ]
            refine wpAnyH_take (i := 12) (oi := ⟨some 50, _, _, _, _, _⟩) (v := ?_) rfl (by kernel_rfl) (by kernel_rfl) (by kernel_rfl) (fun _ _ _ h => h) (Or.inl ⟨by rfl, ?_⟩) (by assumption) ?_
            rotate_left
            · (intro w hSw; (try dsimp only at hSw); go_simp; (try (with_reducible rfl)))
            try simp only [Act.put, List.setIfInBounds_toArray, List.set_cons_zero, List.set_cons_succ]
            refine wpAnyH_take (i := 13) (oi := ⟨some 51, _, _, _, _, _⟩) (v := ?_) rfl (by kernel_rfl) (by kernel_rfl) (by kernel_rfl) (fun _ _ _ h => h) (Or.inl ⟨by rfl, ?_⟩) (by assumption) ?_
            rotate_left
            · (intro w hSw; (try dsimp only at hSw); go_simp; (try (with_reducible rfl)))
            try simp only [Act.put, List.setIfInBounds_toArray, List.set_cons_zero, List.set_cons_succ]
            refine wpAnyH_take (i := 14) (oi := ⟨some 52, _, _, _, _, _⟩) (v := ?_) rfl (by kernel_rfl) (by kernel_rfl) (by kernel_rfl) (fun _ _ _ h => h) (Or.inl ⟨by rfl, ?_⟩) (by assumption) ?_
            rotate_left
            · (intro w hSw; (try dsimp only at hSw); go_simp; (try (with_reducible rfl)))
            try simp only [Act.put, List.setIfInBounds_toArray, List.set_cons_zero, List.set_cons_succ]
            refine wpAnyH_take (i := 15) (oi := ⟨some 53, _, _, _, _, _⟩) (v := ?_) rfl (by kernel_rfl) (by kernel_rfl) (by kernel_rfl) (fun _ _ _ h => h) (Or.inl ⟨by rfl, ?_⟩) (by assumption) ?_
            rotate_left
            · (intro w hSw; (try dsimp only at hSw); go_simp; (try (with_reducible rfl)))
            try simp only [Act.put, List.setIfInBounds_toArray, List.set_cons_zero, List.set_cons_succ]
            refine wpAnyH_take (i := 16) (oi := ⟨some 54, _, _, _, _, _⟩) (v := ?_) rfl (by kernel_rfl) (by kernel_rfl) (by kernel_rfl) (fun _ _ _ h => h) (Or.inl ⟨by rfl, ?_⟩) (by assumption) ?_
            rotate_left
            · (intro w hSw; (try dsimp only at hSw); go_simp; (try (with_reducible rfl)))
            try simp only [Act.put, List.setIfInBounds_toArray, List.set_cons_zero, List.set_cons_succ]
            refine wpAnyH_ready (rs := [5, 9]) (by kernel_rfl) (by simp) ?_
            refine AllReadyH.cons rfl (fun K hK => ?_) (AllReadyH.cons (o := ⟨some 47, _, _, _, _, _⟩) rfl (fun K hK => ?_) AllReadyH.nil)
            · go_simp
              refine hK.out _ _ hHeld (fun hHeld => ?_)
              clear hK K
              try simp only [List.setIfInBounds_toArray, List.set_cons_zero, List.set_cons_succ]
              refine wpAnyH_ready (rs := [9]) (by kernel_rfl) (by simp) ?_
              refine AllReadyH.cons (o := ⟨some 47, _, _, _, _, _⟩) rfl (fun K hK => ?_) AllReadyH.nil
              go_simp
              refine HCA.out.mono ?_; rintro e w5 ⟨rfl, nd, rfl⟩; have f5 : (wr.drew.drewN nd).cell? ⟨g1, q, none⟩ = some (.int .i64 u) := f2; have f6 : (wr.drew.drewN nd).cell? ⟨g1, i, none⟩ = some (.int .i64 v) := f1; have z5 : (wr.drew.drewN nd).frozen? ⟨g1, i, none⟩ = false := z1
              go_wp2_with fail
              refine hK.out _ _ (by (try dsimp only); simp [*]) (fun hHeld => ?_)
              clear hK K
              try simp only [List.setIfInBounds_toArray, List.set_cons_zero, List.set_cons_succ]
              refine wpAnyH_take (i := 17) (oi := ⟨some 55, _, _, _, _, _⟩) (v := ?_) rfl (by kernel_rfl) (by kernel_rfl) (by kernel_rfl) (fun _ _ _ h => h) (Or.inl ⟨by rfl, ?_⟩) (by assumption) ?_
              rotate_left
              · (intro w hSw; (try dsimp only at hSw); go_simp; (try (with_reducible rfl)))
              try simp only [Act.put, List.setIfInBounds_toArray, List.set_cons_zero, List.set_cons_succ]
              refine wpAnyH_take (i := 18) (oi := ⟨some 56, _, _, _, _, _⟩) (v := ?_) rfl (by kernel_rfl) (by kernel_rfl) (by kernel_rfl) (fun _ _ _ h => h) (Or.inl ⟨by rfl, ?_⟩) (by assumption) ?_
              rotate_left
              · (intro w hSw; (try dsimp only at hSw); go_simp; (try (with_reducible rfl)))
              try simp only [Act.put, List.setIfInBounds_toArray, List.set_cons_zero, List.set_cons_succ]
              refine wpAnyH_take (i := 19) (oi := ⟨some 57, _, _, _, _, _⟩) (v := ?_) rfl (by kernel_rfl) (by kernel_rfl) (by kernel_rfl) (fun _ _ _ h => h) (Or.inl ⟨by rfl, ?_⟩) (by assumption) ?_
              rotate_left
              · (intro w hSw; (try dsimp only at hSw); go_simp; (try (with_reducible rfl)))
              try simp only [Act.put, List.setIfInBounds_toArray, List.set_cons_zero, List.set_cons_succ]
              refine wpAnyH_ready (rs := [20]) (by kernel_rfl) (by simp) ?_
              refine AllReadyH.cons rfl (fun K hK => ?_) AllReadyH.nil
              go_simp
              refine hK.out _ _ (HK2.out _ _ f5) (fun hHeld => ?_)
              clear hK K
              refine wpAnyH_done (by kernel_rfl) ?_ _
              have HW := Lib.hid (min_if cc u v)
              generalize (if (if cc < u then u else cc) < v then (if cc < u then u else cc) else v) = mm at *
              generalize (if cc < u then u else cc) = m2 at *
              have HS5 := Lib.hid ((own_below HR.out (below_drewN (Below.refl wr.heap.size wr) (1 + nd))).stored i (.int .i64 mm))
              clear hHeld f1 z1 f2
              go_wp2_with fail
              go_roundg g4
              case measure => omega
              case rel =>
                have h_ := HS5.out.1
                rw [rowF_cells, upd_upd, HW.out] at h_
                refine ⟨x + 1, _, by omega, by go_num, ?_, HP, ?_⟩
                · rw [HW.out]; exact h_
                · exact (below_drewN HB.out (1 + nd)).setCell (p := ⟨g1, i, none⟩) (HR.out.lt g1 rfl).1 _
            · go_simp
              refine HCA.out.mono ?_
              rintro e w5 ⟨rfl, nd, rfl⟩
              have f5 : (wr.drew.drewN nd).cell? ⟨g1, q, none⟩ = some (.int .i64 u) := f2
              have f6 : (wr.drew.drewN nd).cell? ⟨g1, i, none⟩ = some (.int .i64 v) := f1
              have z5 : (wr.drew.drewN nd).frozen? ⟨g1, i, none⟩ = false := z1
              go_wp2_with fail
              refine hK.out _ _ f5 (fun hHeld => ?_)
              clear hK K
              try simp only [List.setIfInBounds_toArray, List.set_cons_zero, List.set_cons_succ]
              refine wpAnyH_take (i := 17) (oi := ⟨some 55, _, _, _, _, _⟩) (v := ?_) rfl (by kernel_rfl) (by kernel_rfl) (by kernel_rfl) (fun _ _ _ h => h) (Or.inl ⟨by rfl, ?_⟩) (by assumption) ?_
              rotate_left
              · (intro w hSw; (try dsimp only at hSw); go_simp; (try (with_reducible rfl)))
              try simp only [Act.put, List.setIfInBounds_toArray, List.set_cons_zero, List.set_cons_succ]
              refine wpAnyH_ready (rs := [5]) (by kernel_rfl) (by simp) ?_
              refine AllReadyH.cons rfl (fun K hK => ?_) AllReadyH.nil
              go_simp
              refine hK.out _ _ (f5) (fun hHeld => ?_)
              clear hK K
              try simp only [List.setIfInBounds_toArray, List.set_cons_zero, List.set_cons_succ]
              refine wpAnyH_take (i := 18) (oi := ⟨some 56, _, _, _, _, _⟩) (v := ?_) rfl (by kernel_rfl) (by kernel_rfl) (by kernel_rfl) (fun _ _ _ h => h) (Or.inl ⟨by rfl, ?_⟩) (by assumption) ?_
              rotate_left
              · (intro w hSw; (try dsimp only at hSw); go_simp; (try (with_reducible rfl)))
              try simp only [Act.put, List.setIfInBounds_toArray, List.set_cons_zero, List.set_cons_succ]
              refine wpAnyH_take (i := 19) (oi := ⟨some 57, _, _, _, _, _⟩) (v := ?_) rfl (by kernel_rfl) (by kernel_rfl) (by kernel_rfl) (fun _ _ _ h => h) (Or.inl ⟨by rfl, ?_⟩) (by assumption) ?_
              rotate_left
              · (intro w hSw; (try dsimp only at hSw); go_simp; (try (with_reducible rfl)))
              try simp only [Act.put, List.setIfInBounds_toArray, List.set_cons_zero, List.set_cons_succ]
              refine wpAnyH_ready (rs := [20]) (by kernel_rfl) (by simp) ?_
              refine AllReadyH.cons rfl (fun K hK => ?_) AllReadyH.nil
              go_simp
              refine hK.out _ _ (HK2.out _ _ f5) (fun hHeld => ?_)
              clear hK K
              refine wpAnyH_done (by kernel_rfl) ?_ _
              have HW := Lib.hid (min_if cc u v)
              generalize (if (if cc < u then u else cc) < v then (if cc < u then u else cc) else v) = mm at *
              generalize (if cc < u then u else cc) = m2 at *
              have HS5 := Lib.hid ((own_below HR.out (below_drewN (Below.refl wr.heap.size wr) (1 + nd))).stored i (.int .i64 mm))
              clear hHeld f1 z1 f2
              go_wp2_with fail
              go_roundg g4
              case measure => omega
              case rel =>
                have h_ := HS5.out.1
                rw [rowF_cells, upd_upd, HW.out] at h_
                refine ⟨x + 1, _, by omega, by go_num, ?_, HP, ?_⟩
                · rw [HW.out]; exact h_
                · exact (below_drewN HB.out (1 + nd)).setCell (p := ⟨g1, i, none⟩) (HR.out.lt g1 rfl).1 _
end Go.Proofs.Ytphlpipbhaiijaa.costs
