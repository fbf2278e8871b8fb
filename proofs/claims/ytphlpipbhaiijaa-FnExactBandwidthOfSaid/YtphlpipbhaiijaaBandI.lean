/- Bandwidths of layouts: the contracts of the program's stretch.atEnd and BandwidthOf. -/
import Derived.Handy
import Derived.Test.YtphlpipbhaiijaaBandM
namespace Go.Proofs.Ytphlpipbhaiijaa.lays
open Go.RowKit P2 words edges ints good adjs fns sets rets covs reach bags each degs bitsI func
set_option linter.unusedVariables false

/-- slices.IndexFunc over a method's value -/
theorem indexFuncM_any (u r : Value) (xs : List Int) (f : FuncId) (p : Int → Bool) (w : World) (hu : Ints w u xs) (hxl : xs.length ≤ 1048576) (hent : ∀ (args : Array Value) (W : World), (callFunc f args).run Try.prog W = .ok (.enter f args) W)
    (hcall : ∀ W, ∀ x ∈ xs, Calls Try.prog f #[r, .int .i64 x] W fun e W' => e = .returned (.bool (p x)) ∧ W = W') :
    Calls Try.prog 148 #[u, .func (.func f) #[r] #[]] w fun e w' => e = .returned (.int .i64 (idxF p xs)) ∧ w = w' := by
  obtain ⟨A2, c2, rfl, hc⟩ := hu.form
  have HC := Lib.hid hc
  have HF := Lib.hid hcall
  clear hu hc hcall
  go_enter Try.func148, Try.ntmps148
  go_wp2_with fail
  go_loop [8] (fun i => ∃ k : Nat, k ≤ xs.length ∧ i = .int .i64 (k : Int) ∧ Hid (∀ j y, j < k → xs[j]? = some y → p y = false)) (fun i => xs.length - (intOf i).toNat)
  case atStart => exact ⟨0, Nat.zero_le _, rfl, fun j e h => by omega⟩
  case round =>
    obtain ⟨k, hk, rfl, hno⟩ := hrel
    by_cases hlt : k < xs.length
    · have hlt' : (k : Int) < (xs.length : Int) := by omega
      obtain ⟨y, hy⟩ : ∃ y, xs[k]? = some y := ⟨_, List.getElem?_eq_getElem hlt⟩
      obtain ⟨g, o, rfl, c0⟩ := HC.out k y hy
      have HP := Lib.hid (fun (W : World) => HF.out W y (List.mem_of_getElem? hy))
      cases hp : p y with
      | true =>
        have HN := Lib.hid (idxF_at hno.out hy hp)
        rw [hp] at HP
        clear hy hp
        go_wp2_with fail
        refine (HP.out _).mono ?_
        rintro e w1 ⟨rfl, rfl⟩
        go_wp2_with fail
        go_ret
        exact ⟨ret_int (by rw [HN.out]), rfl⟩
      | false =>
        have HK := Lib.hid (no_succ hno.out hy hp)
        rw [hp] at HP
        clear hy hp
        go_wp2_with fail
        refine (HP.out _).mono ?_
        rintro e w1 ⟨rfl, rfl⟩
        go_wp2_with fail
        go_round
        case rel => exact ⟨k + 1, by omega, by go_num, HK⟩
        case measure => simp [intOf]; omega
    · obtain rfl : k = xs.length := by omega
      have HN := Lib.hid (idxF_none hno.out)
      go_wp2_with fail
      go_ret
      exact ⟨ret_int (by rw [HN.out]), rfl⟩
set_option maxHeartbeats 1000000 in
set_option maxRecDepth 100000 in
theorem stretchEnd_any (n k : Nat) (v : Value) (A2 : Option Addr) (c2 : Nat) (l : List Ed) (tl : List Int) (w : World) (h : Nums w v (clos l n)) (hg : P2.Good (n : Int) l) (hn : n ≤ 8) (hu : Ints w (.slice A2 (k + 1) c2) (tl.take (k + 1))) (he : EachS n tl) (hkn : k < n) :
    Calls Try.prog 192 #[v, .slice A2 (k + 1) c2] w fun e w' => e = .returned (.int .i64 (bandF l tl k)) ∧ w = w' := by
  obtain ⟨A, c, rfl, hcl⟩ := h.form
  obtain ⟨x, hx⟩ : ∃ x, tl[k]? = some x := ⟨_, List.getElem?_eq_getElem (by rw [he.1]; exact hkn)⟩
  have hxr := he.range x (List.mem_of_getElem? hx)
  obtain ⟨m, rfl⟩ : ∃ m : Nat, x = (m : Int) := ⟨x.toNat, by omega⟩
  have hmn : m < n := by omega
  have hmn' : (m : Int) < (n : Int) := by omega
  obtain ⟨g6, o6, rfl, c6⟩ := hcl m _ (clos_at hmn)
  have hlen := clos_len l n
  rw [hlen]
  have htk : (tl.take (k + 1))[k]? = some (m : Int) := by rw [List.getElem?_take_of_lt (by omega)]; exact hx
  obtain ⟨A5, c5, e5, hcc⟩ := hu.form
  have htl : (tl.take (k + 1)).length = k + 1 := by rw [List.length_take, he.1]; omega
  rw [htl] at e5
  cases e5
  obtain ⟨g5, o5, rfl, c5'⟩ := hcc k _ htk
  have hmf : ∀ (fn : Fn) (first cap : Array Value) (w : World), (Instr.makeFunc fn first cap).run Try.prog w = .ok (.func fn first cap) w := fun _ _ _ _ => rfl
  have HI := Lib.hid (indexFuncM_any (.slice (some ⟨g5, o5, none⟩) (k + 1) c2) (.int .u64 (cloB l m : Int)) (tl.take (k + 1)) 114 (clB l (m : Int)) w hu (by omega) (fun _ _ => by kernel_rfl)
    (fun W y hy => by
      have hyr := he.range y (List.mem_of_mem_take hy)
      obtain ⟨z, rfl⟩ : ∃ z : Nat, y = (z : Int) := ⟨y.toNat, by omega⟩
      have h_ := has_any (cloB l m) z W (by have := cloB_lt' hg m (by omega); omega) (by omega)
      unfold clB
      rw [Int.toNat_natCast, Int.toNat_natCast]
      exact h_))
  have hlim := bandF_lim hg hx
  have HV : Hid (bandF l tl k = (k : Int) - idxF (clB l (m : Int)) (tl.take (k + 1))) := by show _ = _; unfold bandF; rw [show tl.getD k 0 = (m : Int) from by simp [List.getD, hx]]
  rw [HV.out]
  clear h hcl hx hcc hu htl hlen htk
  generalize idxF (clB l (m : Int)) (tl.take (k + 1)) = q at *
  obtain ⟨k1, hk1⟩ : ∃ k1, k1 = k + 1 := ⟨_, rfl⟩
  rw [← hk1] at HI ⊢
  have hkk : (k1 : Int) - 1 = (k : Int) := by omega
  have hw1 : IntKind.i64.wrap ((k1 : Int) - 1) = (k : Int) := by rw [hkk]; exact IntWalk.i64_in _ (by omega)
  have hlt1 : (k : Int) < (k1 : Int) := by omega
  clear hk1 hkk
  go_enter Try.func192, Try.ntmps192
  go_wp2_with fail
  refine HI.out.mono ?_
  rintro e w' ⟨rfl, rfl⟩
  go_wp2_with fail
  go_ret
  exact ⟨ret_int (by first | rfl | (rw [IntKind.wrap_i64]; omega)), rfl⟩
set_option maxHeartbeats 1000000 in
set_option maxRecDepth 100000 in
theorem implBandwidth_any (s : Int) (v u : Value) (l : List Ed) (tl : List Int) (w : World) (h : Edges w v l) (hl : l.length ≤ 1048576) (hu : Ints w u tl) (htl : tl.length ≤ 1048576) :
    Calls Try.prog 19 #[.agg #[.int .i64 s, v], u] w (RetN w (ElimOk s l tl) (grL (l.map (dE tl)))) := by
  obtain ⟨A, c, rfl, -⟩ := h.form
  obtain ⟨A2, c2, rfl, -⟩ := hu.form
  have H := Lib.hid h
  have HU := Lib.hid hu
  have hcap := ints_cap hu
  have b0 : Below w.heap.size w (w.alloc (.cells #[.int .i64 s, .slice A l.length c] 29)) := (Below.refl _ _).alloc (Nat.le_refl _) _
  have g0 := Blk.new w 29 #[.int .i64 s, .slice A l.length c]
  have HO := Lib.hid (hasOrder_any s _ _ l tl _ (h.below b0) hl (hu.below b0) htl)
  clear h hu
  by_cases hok : ElimOk s l tl
  · rw [okG_yes (show P2.Good s l ∧ EachS s.toNat tl from hok)] at HO
    have h0 := hok.1.1
    have h8 := hok.1.2.1
    obtain ⟨n, rfl⟩ : ∃ n : Nat, s = (n : Int) := ⟨s.toNat, by omega⟩
    have HOK := Lib.hid hok
    have hn : n ≤ 8 := by omega
    have HE : Hid (EachS n tl) := by have := hok.2; rwa [Int.toNat_natCast] at this
    have HV := Lib.hid (band_eq hok.1 HE.out)
    rw [← HV.out]
    have hnl := HE.out.1
    rw [hnl] at HO hcap ⊢
    clear hok hnl
    go_enter Try.func19, Try.ntmps19
    go_wp2_with fail
    refine HO.out.mono ?_
    rintro e w1 ⟨rfl, b1⟩
    have e1 := btrans b0 b1
    have g1 := g0.below b1 g0.lt
    obtain ⟨p0, p1, -, -⟩ := g1.two
    clear HO b0 b1 g0
    go_wp2_with fail
    refine (closedBits_any n (.slice A l.length c) l w1 (H.out.below e1) hl HOK.out.1 hn).mono ?_
    rintro e w2 ⟨A3, c3, rfl, r3, b3⟩
    have HE2 := Lib.hid (btrans e1 b3)
    have HAL := Lib.hid (along_any n 57 192 (.slice A3 (clos l n).length c3) (bandF l tl) A2 c2 w2 hn hcap (fun _ => by kernel_rfl) (fun _ => by kernel_rfl) (fun _ _ => by kernel_rfl)
      (fun W k hW hk => (stretchEnd_any n k _ A2 c2 l tl W (r3.below hW) HOK.out.1 hn (by
          have h_ := ints_take (i := k + 1) (c := c2) ((show Ints w (.slice A2 tl.length c2) tl from HU.out).below (btrans HE2.out hW)) (by rw [HE.out.1]; omega) (by omega)
          exact h_) HE.out hk).mono
        fun e w' ⟨he, hw⟩ => ⟨he, hw ▸ Below.refl _ _⟩))
    clear r3 b3
    go_wp2_with fail
    refine HAL.out.mono ?_
    rintro e w4 ⟨A4, c4, rfl, o4, b4⟩
    have HLN := Lib.hid (bandsL_len l tl n)
    have HGR : Hid (Calls Try.prog 55 #[.slice A4 n c4] w4 fun e w' => e = .returned (.int .i64 (grL (bandsL l tl n))) ∧ w4 = w') :=
      greatestOf_any _ (bandsL l tl n) w4 (by have h_ := Reads.of_own o4; show Reads _ _ _ _ _; rw [HLN.out]; exact h_) (by rw [HLN.out]; omega)
    have HB := Lib.hid (btrans HE2.out b4)
    clear o4 b4
    go_wp2_with fail
    refine HGR.out.mono ?_
    rintro e w' ⟨rfl, rfl⟩
    go_wp2_with fail
    go_ret2
    exact RetN.yes HOK.out HB.out
  · rw [okG_no (show ¬ (P2.Good s l ∧ EachS s.toNat tl) from hok)] at HO
    have HN := Lib.hid hok
    clear hok
    go_enter Try.func19, Try.ntmps19
    go_wp2_with fail
    refine HO.out.mono ?_
    rintro e w1 ⟨rfl, b1⟩
    go_wp2_with fail
    go_ret2
    exact RetN.no HN.out (btrans b0 b1)
end Go.Proofs.Ytphlpipbhaiijaa.lays
