/- The contract of the program's canMove. -/
import Derived.Handy
import Derived.Test.YtdhbaegkogklgaaDoorK14
import Derived.Test.YtdhbaegkogklgaaDoorK03
import Derived.BigQuiet
namespace Go.Proofs.YtdhbaegkogklgaaDoor.lists
open Go.RowKit P2 words edges ints good adjs fns sets rets apps gridr grid trip covs bitsI
set_option linter.unusedVariables false

theorem drew_add (w : World) (a b : Nat) : (w.drewN a).drewN b = w.drewN (a + b) := by
  induction b with
  | zero => rfl
  | succ b ih => show ((w.drewN a).drewN b).drew = (w.drewN (a + b)).drew; rw [ih]
theorem quiet_drew {P : Program} {f : FuncId} {args : Array Value} {w : World} {n : Nat} {v : Value}
    (h : Calls P f args (w.drewN n) fun e w' => e = .returned v ∧ ∃ m, w' = (w.drewN n).drewN m) : Calls P f args (w.drewN n) fun e w'' => e = .returned v ∧ ∃ m, w'' = w.drewN m :=
  h.mono fun _ _ ⟨he, m, hm⟩ => ⟨he, n + m, by rw [hm, drew_add]⟩
theorem can_step {b : Nat → Nat → Bool} {x : Nat} {cs L : List Nat} {c : Nat} : ∀ {k : Nat}, k ≤ L.length → ((List.range k).any fun i => !c.testBit i && (b x (L.getD i 0) && canN b cs L (c ||| 2 ^ i))) = true → canN b (x :: cs) L c = true := fun {k} hk h => by
  obtain ⟨i, hi, h2⟩ := List.any_eq_true.1 h
  exact List.any_eq_true.2 ⟨i, List.mem_range.2 (by have := List.mem_range.1 hi; omega), h2⟩
set_option maxHeartbeats 20000000 in
set_option maxRecDepth 100000 in
theorem canMove_any (n : Nat) (l : List Ed) (L : List Nat) (cv v : Value) (hg : P2.Good (n : Int) l) (hn : n ≤ 8) (hL : L.length ≤ 8) (hLn : ∀ y ∈ L, y < n) : ∀ (cs : List Nat), (∀ x ∈ cs, x < n) → cs.length ≤ 8 → ∀ (u : Value) (c : Nat) (w : World), c < 256 →
    Nums w cv (clos l n) → Ints w u (castL cs) → Ints w v (castL L) →
    Calls Tryd.prog 147 #[cv, u, v, .int .u64 (c : Int)] w fun e w' => e = .returned (.bool (canN (ballB l) cs L c)) ∧ ∃ m, w' = w.drewN m := by
  intro cs
  induction cs with
  | nil =>
    intro _ _ u c w hc hcv hu hv
    obtain ⟨A1, c1, rfl, -⟩ := hu.form
    have h0 : (castL []).length = 0 := rfl
    rw [h0]
    clear h0 hu hv hcv
    go_enter Tryd.func147, Tryd.ntmps147
    go_wp2_with fail
    go_ret
    exact ⟨rfl, 0, rfl⟩
  | cons x cs ih =>
    intro hcs hcl u c w hc hcv hu hv
    obtain ⟨A1, c1, rfl, hc1⟩ := hu.form
    obtain ⟨A2, c2, rfl, hc2⟩ := hv.form
    obtain ⟨A3, c3, rfl, hc3⟩ := hcv.form
    rw [clos_len]
    have hxn := hcs x List.mem_cons_self
    have HIH := Lib.hid (ih fun y hy => hcs y (List.mem_cons_of_mem _ hy))
    have HCV := Lib.hid hcv
    have HU := Lib.hid hu
    have HV := Lib.hid hv
    have HC2 := Lib.hid hc2
    have HGD := Lib.hid hg
    have HLN := Lib.hid hLn
    obtain ⟨g1, o1, rfl, q1⟩ := hc1 0 (x : Int) rfl
    rw [Nat.add_zero] at q1
    obtain ⟨g3, o3, rfl, q3⟩ := hc3 x _ (clos_at hxn)
    have HLL := Lib.hid (castL_len L)
    have hl1 : (castL (x :: cs)).length = cs.length + 1 := by simp [castL]
    have HL1 := Lib.hid hl1
    rw [hl1]
    have hcl2 : cs.length ≤ 7 := by simpa using hcl
    have HSL0 : Hid (∀ W, Below w.heap.size w W → Reads W 1 (.slice (if c1 = 1 then some ⟨g1, o1, none⟩ else some ⟨g1, o1 + 1, none⟩) cs.length (c1 - 1)) cs.length (cellsI (castL cs))) := fun W hW => by
      have h2 := apps.Reads.drop (k := 1) (HU.out.below hW) (by rw [HL1.out]; omega)
      rw [apps.cellsI_drop, HL1.out, Nat.add_sub_cancel] at h2
      have h3 : (castL (x :: cs)).drop 1 = castL cs := rfl
      rw [h3] at h2
      simpa [apps.addr_add] using h2
    clear ih hcs hu hv hc1 hc2 hc3 hg hLn hcv hl1 hcl
    obtain ⟨SA, sc, hsl, hif⟩ : ∃ SA sc, Hid (∀ W, Below w.heap.size w W → Reads W 1 (.slice SA cs.length sc) cs.length (cellsI (castL cs))) ∧ ((c1 = 1 ∧ SA = some ⟨g1, o1, none⟩ ∧ sc = 0) ∨ (¬ c1 = 1 ∧ SA = some ⟨g1, o1 + 1, none⟩ ∧ sc = c1 - 1)) := by
      refine ⟨_, _, HSL0, ?_⟩
      by_cases h : c1 = 1
      · exact .inl ⟨h, by rw [if_pos h], by omega⟩
      · exact .inr ⟨h, by rw [if_neg h], rfl⟩
    have HSL := hsl
    clear HSL0 hsl
    rcases hif with ⟨rfl, rfl, rfl⟩ | ⟨hne, rfl, rfl⟩
    all_goals
      go_enter Tryd.func147, Tryd.ntmps147
      go_wp2_with fail
      go_loopg [16] L.length (fun g iv wr => ∃ (k m : Nat), k + g = L.length ∧ iv = .int .i64 (k : Int) ∧ Hid (((List.range k).any fun i => !c.testBit i && (ballB l x (L.getD i 0) && canN (ballB l) cs L (c ||| 2 ^ i))) = false) ∧ wr = w.drewN m)
      case atStart => exact ⟨0, 0, by omega, rfl, rfl, rfl⟩
      case round =>
        obtain ⟨k, m, hkg, rfl, hno, rfl⟩ := hrel
        cases gk with
        | zero =>
          obtain rfl : k = L.length := by omega
          have HN : Hid (canN (ballB l) (x :: cs) L c = false) := hno.out
          have hk9 : ¬ ((L.length : Int) < ((castL L).length : Int)) := by rw [HLL.out]; omega
          go_wp2_with fail
          go_ret
          exact ⟨ret_bool HN.out.symm, m, rfl⟩
        | succ gg =>
          have hlt : k < L.length := by omega
          have hlt' : (k : Int) < ((castL L).length : Int) := by rw [HLL.out]; omega
          obtain ⟨y, hy⟩ : ∃ y, L[k]? = some y := ⟨_, List.getElem?_eq_getElem hlt⟩
          have hyn := HLN.out y (List.mem_of_getElem? hy)
          have hyd : L.getD k 0 = y := by rw [List.getD_eq_getElem?_getD, hy]; rfl
          obtain ⟨g2, o2, rfl, q2⟩ := HC2.out k _ (castL_at hy)
          have hsuc : ((List.range (k + 1)).any fun i => !c.testBit i && (ballB l x (L.getD i 0) && canN (ballB l) cs L (c ||| 2 ^ i))) = (!c.testBit k && (ballB l x y && canN (ballB l) cs L (c ||| 2 ^ k))) := by
            rw [List.range_succ, List.any_append, hno.out, Bool.false_or, List.any_cons, List.any_nil, Bool.or_false, hyd]
          have HSUC := Lib.hid hsuc
          have HBW : Hid (Below w.heap.size w (w.drewN m)) := below_drewN (Below.refl _ _) m
          have s1 := nearv.cell_keep q1 HBW.out
          have s2 := nearv.cell_keep q2 HBW.out
          have s3 := nearv.cell_keep q3 HBW.out
          have hcb := cloB_lt' HGD.out x (by omega)
          have HH1 := Lib.hid (fun (W : World) => has_any c k W (by omega) (by omega))
          have HH2 := Lib.hid (fun (W : World) => has_any (cloB l x) y W (by omega) (by omega))
          have hbit : (cloB l x).testBit y = ballB l x y := cloB_bit HGD.out x y
          rw [hbit] at HH2
          have hor := or_walk c k (by omega) (by omega)
          have hor8 : c ||| 2 ^ k < 256 := Nat.or_lt_two_pow (n := 8) (by omega) (Nat.pow_lt_pow_right (by decide) (by omega))
          have HREC : Hid (∀ (u : Value) (W : World), Below w.heap.size w W → Reads W 1 u cs.length (cellsI (castL cs)) → Calls Tryd.prog 147 #[.slice (some ⟨g3, o3, none⟩) n c3, u, .slice (some ⟨g2, o2, none⟩) (castL L).length c2, .int .u64 ((c ||| 2 ^ k : Nat) : Int)] W fun e w' => e = .returned (.bool (canN (ballB l) cs L (c ||| 2 ^ k))) ∧ ∃ m, w' = W.drewN m) := fun u W hW hR => by
            have h5 := HIH.out (by omega) u (c ||| 2 ^ k) W hor8 (HCV.out.below hW) (show Reads W 1 u (castL cs).length (cellsI (castL cs)) from by rw [castL_len]; exact hR) (HV.out.below hW)
            rw [clos_len] at h5
            exact h5
          have hy8 : (y : Int) < 8 := by omega
          have hxn' : (x : Int) < (n : Int) := by omega
          clear hy hyd hsuc hbit q2
          generalize hww : w.drewN m = w7 at *
          have HWW := Lib.hid hww
          clear hww
          cases hb1 : c.testBit k with
          | true =>
            rw [hb1] at HH1
            rw [hb1] at HSUC
            have HK : Hid (((List.range (k + 1)).any fun i => !c.testBit i && (ballB l x (L.getD i 0) && canN (ballB l) cs L (c ||| 2 ^ i))) = false) := HSUC.out
            clear hb1
            go_wp2_with fail
            go_quiet (first | (go_at_call 50; exact quiet_left (HH1.out _)))
            go_wp2_with fail
            go_roundg gg
            case measure => omega
            case rel => exact ⟨k + 1, m + nq, by omega, by go_num, HK, by rw [← HWW.out, drew_add]⟩
          | false =>
            rw [hb1] at HH1
            rw [hb1] at HSUC
            cases hb2 : ballB l x y with
            | false =>
              rw [hb2] at HH2
              rw [hb2] at HSUC
              have HK : Hid (((List.range (k + 1)).any fun i => !c.testBit i && (ballB l x (L.getD i 0) && canN (ballB l) cs L (c ||| 2 ^ i))) = false) := HSUC.out
              clear hb1 hb2
              go_wp2_with fail
              go_quiet (first | (go_at_call 50; exact quiet_left (HH1.out _)) | (go_at_call 50; exact quiet_left (HH2.out _)))
              go_wp2_with fail
              go_roundg gg
              case measure => omega
              case rel => exact ⟨k + 1, m + nq, by omega, by go_num, HK, by rw [← HWW.out, drew_add]⟩
            | true =>
              rw [hb2] at HH2
              rw [hb2] at HSUC
              cases hb3 : canN (ballB l) cs L (c ||| 2 ^ k) with
              | false =>
                rw [hb3] at HREC
                rw [hb3] at HSUC
                have HK : Hid (((List.range (k + 1)).any fun i => !c.testBit i && (ballB l x (L.getD i 0) && canN (ballB l) cs L (c ||| 2 ^ i))) = false) := HSUC.out
                clear hb1 hb2 hb3
                go_wp2_with fail
                go_quiet (first | (go_at_call 50; exact quiet_left (HH1.out _)) | (go_at_call 50; exact quiet_left (HH2.out _)) | (go_at_call 147; exact quiet_drew (HREC.out _ _ (below_drewN HBW.out _) (HSL.out _ (below_drewN HBW.out _)))))
                go_wp2_with fail
                go_roundg gg
                case measure => omega
                case rel => exact ⟨k + 1, m + nq, by omega, by go_num, HK, by rw [← HWW.out, drew_add]⟩
              | true =>
                rw [hb3] at HREC
                rw [hb3] at HSUC
                have HY : Hid (canN (ballB l) (x :: cs) L c = true) := can_step (k := k + 1) (by omega) HSUC.out
                clear hb1 hb2 hb3
                go_wp2_with fail
                go_quiet (first | (go_at_call 50; exact quiet_left (HH1.out _)) | (go_at_call 50; exact quiet_left (HH2.out _)) | (go_at_call 147; exact quiet_drew (HREC.out _ _ (below_drewN HBW.out _) (HSL.out _ (below_drewN HBW.out _)))))
                go_wp2_with fail
                go_ret
                exact ⟨ret_bool HY.out.symm, m + nq, by rw [← HWW.out, drew_add]⟩
end Go.Proofs.YtdhbaegkogklgaaDoor.lists
