/- The contract of the model's l3Can: it ends with one node exactly if the core has one. -/
import Derived.Test.YtbdappkhkngdlabDoorStripS
namespace Go.Proofs.YtbdappkhkngdlabDoor.strip
open Go.RowKit P2 words edges ints good adjs fns rets sets covs cors dism apps mids
set_option linter.unusedVariables false

noncomputable def coreL' (l : List Ed) (n : Nat) : List Int := nw (bitB (coreB l n)) n
theorem more_two {l : List Ed} {n k : Nat} (hg : P2.Good n l) (hn : n ≤ 8) (h : More l n k) : 2 ≤ szn n (sB l n k) := by
  obtain ⟨x, h1, h2, h3, _⟩ := more_x h
  obtain ⟨y, e1, e2, e3⟩ := more_y h
  rw [h1, Int.toNat_natCast] at e3
  obtain ⟨f1, f2, _⟩ := (coverB_iff hg).1 e3
  have m1 : (x : Int) ∈ nw (bitB (sB l n k)) n := mem_nw.2 ⟨x, h2, h3, rfl⟩
  have m2 : (y : Int) ∈ nw (bitB (sB l n k)) n := mem_nw.2 ⟨y, e2, f2, rfl⟩
  unfold szn
  match hl : nw (bitB (sB l n k)) n with
  | [] => rw [hl] at m1; cases m1
  | [a] =>
    rw [hl] at m1 m2
    have := List.mem_singleton.1 m1
    have := List.mem_singleton.1 m2
    omega
  | a :: b :: t => simp
theorem sB_pos {l : List Ed} {n : Nat} (hg : P2.Good n l) (hn : n ≤ 8) (hn0 : 0 < n) : ∀ k, (∀ j, j < k → More l n j) → 0 < szn n (sB l n k)
  | 0, _ => by
    have e : nw (bitB (sB l n 0)) n = allN n := bits_all n
    unfold szn; rw [e]; simpa [allN] using hn0
  | k + 1, h => by
    have h1 := more_two hg hn (h k (by omega))
    have hM := h k (by omega)
    have e := sB_but hn hM
    unfold szn at *
    rw [← e]
    obtain ⟨x, hx1, hx2, hx3, _⟩ := more_x hM
    obtain ⟨y, e1, e2, e3⟩ := more_y hM
    rw [hx1, Int.toNat_natCast] at e3
    obtain ⟨f1, f2, _⟩ := (coverB_iff hg).1 e3
    refine List.length_pos_of_mem (a := (y : Int)) ?_
    unfold but
    rw [List.mem_filter]
    refine ⟨mem_nw.2 ⟨y, e2, f2, rfl⟩, ?_⟩
    rw [hx1]
    simp only [bne_iff_ne, ne_eq]
    omega
theorem few_no {l : List Ed} {n k : Nat} (hg : P2.Good n l) (hn : n ≤ 8) (h : (nw (bitB (sB l n k)) n).length ≤ 1) : cornersN l n (sB l n k) = 0 :=
  Classical.byContradiction fun hm => by have := more_two hg hn hm; unfold szn at this; omega
set_option maxHeartbeats 2000000 in
theorem l3Can_any (n : Nat) (v u : Value) (l : List Ed) (w : World) (h : Edges w v l) (hl : l.length ≤ 1048576) (hg : P2.Good n l) (hn : n ≤ 8) (hu : Ints w u (allN n)) :
    Calls Tryd.prog 26 #[.agg #[.int .i64 (n : Int), v], u] w (fun e w' => e = .returned (.bool (decide ((coreL' l n).length = 1))) ∧ Below w.heap.size w w') := by
  obtain ⟨A, c, rfl, -⟩ := h.form
  have H := Lib.hid h
  have HGD := Lib.hid hg
  have b0 : Below w.heap.size w (w.alloc (.cells #[.int .i64 (n : Int), .slice A l.length c] 28)) := (Below.refl _ _).alloc (Nat.le_refl _) _
  have g0 := Blk.new w 28 #[.int .i64 (n : Int), .slice A l.length c]
  have e0 : nw (bitB (sB l n 0)) n = allN n := bits_all n
  rw [← e0] at hu
  have HU := Lib.hid (hu.below b0)
  have HCO := Lib.hid (fun (W : World) (u : Value) (k : Nat) (hb : Below w.heap.size w W) (hu : Ints W u (nw (bitB (sB l n k)) n)) => l3Corners_any n (.slice A l.length c) u l (nw (bitB (sB l n k)) n) W (h.below hb) hl hu (by have := nw_len (bitB (sB l n k)) n; omega) hn (fun y hy => by obtain ⟨i, hi, _, rfl⟩ := mem_nw.1 hy; omega))
  clear h hg hu e0
  go_enter Tryd.func26, Tryd.ntmps26
  go_wp2_with fail
  go_loopg [1] n (fun g sv wr => ∃ (k : Nat) (s : Value), s = sv ∧ k + g = n ∧ Hid (∀ j, j < k → More l n j) ∧
    Ints wr s (nw (bitB (sB l n k)) n) ∧ Blk wr w.heap.size 28 #[.int .i64 (n : Int), .slice A l.length c] ∧ Below w.heap.size w wr)
  case atStart => exact ⟨0, _, rfl, by omega, fun j hj => by omega, HU.out, g0, b0⟩
  case round =>
    clear HU g0 b0
    obtain ⟨k, sv, rfl, hkg, hmore, hset, hgb, hB⟩ := hrel
    have hset' := hset
    obtain ⟨A1, c1, rfl, -⟩ := hset.form
    by_cases hm : (nw (bitB (sB l n k)) n).length ≤ 1
    · have HK := Lib.hid (kL_eq hn hmore.out (few_no HGD.out hn hm))
      have HV : Hid (decide ((coreL' l n).length = 1) = (((nw (bitB (sB l n k)) n).length : Int) == 1)) := by
        show _ = _
        unfold coreL' coreB
        rw [HK.out]
        exact Bool.eq_iff_iff.2 (by rw [decide_eq_true_iff, beq_iff_eq]; omega)
      have HBB := Lib.hid hB
      have d0 : decide ((1 : Int) < ((nw (bitB (sB l n k)) n).length : Int)) = false := decide_eq_false (by omega)
      clear hset hset' hB hgb hm HK
      generalize (nw (bitB (sB l n k)) n).length = nl at *
      go_wp2_with fail
      go_ret
      exact ⟨by rw [HV.out]; rfl, HBB.out⟩
    · have d0 : decide ((1 : Int) < ((nw (bitB (sB l n k)) n).length : Int)) = true := decide_eq_true (by omega)
      have HC0 := Lib.hid (HCO.out wr _ k hB hset')
      rw [corners_sB HGD.out hn] at HC0
      have HB0 := Lib.hid hB
      have HS0 := Lib.hid hset
      have HG0 := Lib.hid hgb
      have HM0 := Lib.hid hm
      have hnl := nw_len (bitB (sB l n k)) n
      obtain ⟨p0, p1, -, -⟩ := hgb.two
      clear hset hset' hB hgb hm
      generalize hlen : (nw (bitB (sB l n k)) n).length = nl at *
      have HL := Lib.hid hlen
      clear hlen
      go_wp2_with fail
      refine HC0.out.mono ?_
      rintro e w1 ⟨A2, c2, rfl, o2, b2⟩
      have e1 := btrans HB0.out b2
      have g1 := HG0.out.below b2 HG0.out.lt
      have HS1 := Lib.hid (HS0.out.below b2)
      by_cases hc : (nw (cornerB l n (sB l n k)) n).length = 0
      · have HK := Lib.hid (kL_eq hn hmore.out (no_more hc))
        have HV : Hid (decide ((coreL' l n).length = 1) = false) := by
          show _ = _
          unfold coreL' coreB
          rw [HK.out]
          have := HM0.out; have := HL.out
          exact decide_eq_false (by omega)
        have d1 : (((nw (cornerB l n (sB l n k)) n).length : Int) == 0) = true := by rw [hc]; rfl
        have HBB := Lib.hid e1
        clear hc e1 g1 o2 b2 p0 p1 HK
        go_wp2_with fail
        go_ret
        exact ⟨by rw [HV.out]; rfl, HBB.out⟩
      · have d1 : (((nw (cornerB l n (sB l n k)) n).length : Int) == 0) = false := by rw [beq_eq_false_iff_ne]; omega
        have hM : More l n k := fun h0 => hc (by
          rw [List.length_eq_zero_iff, List.eq_nil_iff_forall_not_mem]
          intro e he
          obtain ⟨i, hi, hp, _⟩ := mem_nw.1 he
          rw [numOf_zero.1 h0 i hi] at hp; cases hp)
        obtain ⟨x, hx1, hx2, hx3, hx4, hx5⟩ := more_x hM
        have HBT := Lib.hid (sB_but hn hM)
        rw [hx1] at HBT
        have HMO : Hid (∀ j, j < k + 1 → More l n j) := fun j hj => by
          by_cases e : j = k
          · subst e; exact hM
          · exact hmore.out j (by omega)
        have hks := szn_sum hn (k + 1) HMO.out
        have HC1 := Lib.hid (Reads.of_own o2)
        obtain ⟨_, _, hf, hcc⟩ := Ints.form HC1.out
        cases hf
        obtain ⟨gc, oc, rfl, q0⟩ := hcc 0 _ hx5
        rw [Nat.add_zero] at q0
        have hpos : 0 < (nw (cornerB l n (sB l n k)) n).length := by omega
        have hpos' : (0 : Int) < ((nw (cornerB l n (sB l n k)) n).length : Int) := by omega
        have HWO := Lib.hid (l2Without_any (.slice A1 nl c1) (nw (bitB (sB l n k)) n) (x : Int) w1 HS1.out (show (nw (bitB (sB l n k)) n).length ≤ 1048576 by have := HL.out; omega))
        rw [HBT.out] at HWO
        have HE1 := Lib.hid e1
        have HG1 := Lib.hid g1
        have hcl := nw_len (cornerB l n (sB l n k)) n
        clear hx1 hx3 hx4 hx5 hM hcc o2 b2 e1 g1 p0 p1 hc
        generalize (nw (cornerB l n (sB l n k)) n).length = nc at *
        cases gk with
        | zero => omega
        | succ g2 =>
          go_wp2_with fail
          refine HWO.out.mono ?_
          rintro e w2 ⟨A3, c3, rfl, o3, b3⟩
          go_wp2_with fail
          go_roundg g2
          case measure => omega
          case rel => exact ⟨k + 1, _, rfl, by omega, HMO.out, Reads.of_own o3, HG1.out.below b3 HG1.out.lt, btrans HE1.out b3⟩
end Go.Proofs.YtbdappkhkngdlabDoor.strip
