/- DismantlingOf: the contracts of the program and of the model. -/
import Derived.Test.YtbdappkhkngdlabDoorStripI
import Derived.Test.YtbdappkhkngdlabDoorCan
namespace Go.Proofs.YtbdappkhkngdlabDoor.dismO
open Go.RowKit P2 words edges ints good adjs fns sets rets covs cors dism least strip apps mids
set_option linter.unusedVariables false

noncomputable def xL (l : List Ed) (n k : Nat) : List Int := (List.range k).map (sX l n)
theorem xL_len (l : List Ed) (n k : Nat) : (xL l n k).length = k := by simp [xL]
theorem xL_succ (l : List Ed) (n k : Nat) : xL l n k ++ [sX l n k] = xL l n (k + 1) := by unfold xL; rw [List.range_succ, List.map_append]; rfl
theorem sL_at (l : List Ed) {n k j : Nat} (h : j < k) : (sL l n k)[j]? = some (sX l n j, sY l n j) := by
  unfold sL
  rw [List.getElem?_map, List.getElem?_range h]; rfl
noncomputable def dismL (l : List Ed) (n : Nat) : List Int := xL l n (kL l n) ++ coreL' l n
def DisP (s : Int) (l : List Ed) : Prop := SomeP s l ∧ (coreL' l s.toNat).length = 1
theorem kL_more {l : List Ed} {n : Nat} : ∀ j, j < kL l n → More l n j := by
  intro j hj
  unfold kL at hj
  cases h : (List.range 9).find? fun k => cornersN l n (sB l n k) == 0 with
  | none => rw [h] at hj; simp at hj
  | some k =>
    rw [h] at hj
    have hj' : j < k := hj
    obtain ⟨_, h2, h3⟩ := List.find?_range_eq_some.1 h
    have := h3 j hj'
    unfold More
    simpa using this
theorem kL_le {l : List Ed} {n : Nat} : kL l n ≤ 8 := by
  unfold kL
  cases h : (List.range 9).find? fun k => cornersN l n (sB l n k) == 0 with
  | none => simp
  | some k =>
    have := List.mem_range.1 (List.mem_of_find?_eq_some h)
    simp; omega
theorem core_pos {s : Int} {l : List Ed} (h : SomeP s l) : 0 < (coreL' l s.toNat).length := by
  have h8 := h.1.2.1
  have hs := h.2
  have hg : P2.Good ((s.toNat : Nat) : Int) l := by rw [show ((s.toNat : Nat) : Int) = s by omega]; exact h.1
  exact sB_pos hg (by omega) (by omega) _ kL_more
theorem dism_len (s : Int) (l : List Ed) : (inG (DisP s l) (dismL l s.toNat)).length ≤ 1048576 := inG_len fun h => by
  unfold dismL
  rw [List.length_append, xL_len, h.2]
  have := kL_le (l := l) (n := s.toNat); omega

set_option maxHeartbeats 2000000 in
theorem implDism_any (s : Int) (v : Value) (l : List Ed) (w : World) (hE : Env w) (h : Edges w v l) (hl : l.length ≤ 1048576) :
    Calls Tryd.prog 15 #[.agg #[.int .i64 s, v]] w (RetI w (DisP s l) (dismL l s.toNat)) := by
  obtain ⟨i0, hi, hz0, hz1, hz2⟩ := info_parts infoInt
  obtain ⟨A, c, rfl, -⟩ := h.form
  have H := Lib.hid h
  have HE := Lib.hid hE
  have b0 : Below w.heap.size w (w.alloc (.cells #[.int .i64 s, .slice A l.length c] 28)) := (Below.refl _ _).alloc (Nat.le_refl _) _
  have g0 := Blk.new w 28 #[.int .i64 s, .slice A l.length c]
  have HF := Lib.hid (isFilled_any s _ l _ (h.below b0) hl)
  clear h hE
  by_cases hsm : SomeP s l
  · rw [okG_yes hsm] at HF
    have HP := Lib.hid (core_pos hsm)
    obtain ⟨n, rfl⟩ : ∃ n : Nat, s = (n : Int) := ⟨s.toNat, by have := hsm.2; omega⟩
    have hn : n ≤ 8 := by have := hsm.1.2.1; omega
    have HOK := Lib.hid hsm
    clear hsm
    rw [Int.toNat_natCast] at HP
    have hlt : coreB l n < 256 := sB_lt hn _
    have HNE : Hid (nw (bitB (coreB l n)) 8 = coreL' l n) := nw_more hn (fun k h1 _ => by
      cases hb : bitB (coreB l n) k with
      | false => rfl
      | true => have := sB_bit hn (kL l n) k hb; omega)
    have HD : Hid (DisP (n : Int) l ↔ (coreL' l n).length = 1) := ⟨fun h => by have := h.2; rwa [Int.toNat_natCast] at this, fun h => ⟨HOK.out, by rw [Int.toNat_natCast]; exact h⟩⟩
    have hk8 := kL_le (l := l) (n := n)
    go_enter Tryd.func15, Tryd.ntmps15
    go_wp2_with fail
    refine HF.out.mono ?_
    rintro e w1 ⟨rfl, b1⟩
    have e1 := btrans b0 b1
    have g1 := g0.below b1 g0.lt
    clear HF b0 b1 g0
    obtain ⟨p0, p1, -, -⟩ := g1.two
    go_wp2_with fail
    refine (implStrip_any n _ l w1 (HE.out.next e1) (H.out.below e1) hl HOK.out.1 hn).mono ?_
    rintro e w2 ⟨A2, c2, rfl, o2, b2⟩
    have e2 := btrans e1 b2
    go_wp2_with fail
    refine (bitsI.nodes_any (coreB l n) w2 (by omega)).mono ?_
    rw [HNE.out]
    rintro e w3 ⟨A3, c3, rfl, o3, b3⟩
    have e3 := btrans e2 b3
    have hz3 := e3.size
    by_cases hlen : (coreL' l n).length ≤ 1
    · have hone : (coreL' l n).length = 1 := by have := HP.out; omega
      have HY : Hid (DisP (n : Int) l) := HD.out.2 hone
      have d0 : decide ((1 : Int) < ((coreL' l n).length : Int)) = false := decide_eq_false (by omega)
      have HST : Hid (Edges w3 (.slice A2 (stripL l n).length c2) (stripL l n)) := (Reads.of_own o2).below b3
      have HLA : Hid (Ints w3 (.slice A3 (coreL' l n).length c3) (coreL' l n)) := Reads.of_own o3
      have hsl : (stripL l n).length = kL l n := by unfold stripL; exact sL_len _ _ _
      have HSL := Lib.hid hsl
      have hol : (coreL' l n).length ≤ 1 := hlen
      clear hsl hone
      clear o2 o3 p0 p1 g1 hlen
      go_wp2_with fail
      go_loopg [7, 25] (kL l n) (fun g ov iv wr => ∃ k : Nat, k + g = kL l n ∧ iv = .int .i64 (k : Int) ∧ wr.ownsRow w3.heap.size 3 1 ov (xL l n k).length (cellsI (xL l n k)) ∧ Below w3.heap.size w3 wr)
      case atStart => exact ⟨0, by omega, rfl, World.ownsRow_nil _ _ _ _, Below.refl _ _⟩
      case round =>
        obtain ⟨k, hkg, rfl, hrow, hB⟩ := hrel
        have hsz := hB.size
        cases gk with
        | zero =>
          obtain rfl : k = kL l n := by omega
          have dk : decide (((kL l n : Nat) : Int) < ((stripL l n).length : Int)) = false := decide_eq_false (by have := HSL.out; omega)
          have dk' : decide (kL l n < (stripL l n).length) = false := decide_eq_false (by have := HSL.out; omega)
          have hk1 : ¬ ((kL l n : Nat) : Int) < ((stripL l n).length : Int) := by have := HSL.out; omega
          have hk2 : (stripL l n).length ≤ kL l n := by have := HSL.out; omega
          have HRW := Lib.hid hrow
          have HBB := Lib.hid hB
          have HL2 : Hid (Ints wr (.slice A3 (coreL' l n).length c3) (coreL' l n)) := HLA.out.below hB
          have hxl : (xL l n (kL l n)).length ≤ 8 := by rw [xL_len]; omega
          have hcl : Hid ((cellsI (coreL' l n)).length = (coreL' l n).length * 1) := by show _ = _; simp [cellsI]
          clear hrow hB
          go_wp2_with (at_builtin; refine wpList_append_any _ rfl (.tmp 35) (.tmp 36) 35 rfl w3.heap.size 3 i0 (.int .i64 0) 1 8 Tryd.underlying35 hi hz0 hz1 hz2 rfl (by decide) _ _ _ rfl HRW.out (.slice A3 (coreL' l n).length c3) (coreL' l n).length (cellsI (coreL' l n)) rfl HL2.out hcl.out (oneI _) (by unfold maxLen; omega) (by omega) (by omega) ?_; intro v2 w4 o4 gr4)
          obtain ⟨A4, c4, rfl⟩ := own_form o4
          go_wp2_with fail
          go_ret2
          have e4 : Below w3.heap.size w3 w4 := HBB.out.grown gr4 hsz (fun j e => (HRW.out.lt j e).1)
          have ho : w4.ownsRow w3.heap.size 3 1 (.slice A4 (dismL l n).length c4) (dismL l n).length (cellsI (dismL l n)) := by
            unfold dismL
            rw [cellsI_app, List.length_append]; exact o4
          have hlen2 : (xL l n (kL l n)).length + (coreL' l n).length = (dismL l n).length := by unfold dismL; rw [List.length_append]
          change RetI w (DisP (n : Int) l) (dismL l n) (.returned (.tuple #[.slice A4 ((xL l n (kL l n)).length + (coreL' l n).length) c4, .bool true])) w4
          rw [hlen2]
          exact RetI.yes HY.out (own_base ho e3.size) (btrans e3 e4)
        | succ g2 =>
          have hlt : k < kL l n := by omega
          have dk : decide (((k : Nat) : Int) < ((stripL l n).length : Int)) = true := decide_eq_true (by have := HSL.out; omega)
          have hlt' : (k : Int) < ((stripL l n).length : Int) := by have := HSL.out; omega
          have hx : (stripL l n)[k]? = some (sX l n k, sY l n k) := sL_at l hlt
          obtain ⟨_, _, hf, hcc⟩ := HST.out.form
          cases hf
          obtain ⟨g, o, rfl, c0, c1⟩ := hcc k _ hx
          have q0 := each.cell_keep c0 hB
          have q1 := each.cell_keep c1 hB
          have hxs := xL_succ l n k
          have HXS := Lib.hid hxs
          have hxl : (xL l n k).length ≤ 8 := by rw [xL_len]; omega
          clear hx hcc c0 c1 hxs
          simp only at q0 q1
          generalize sX l n k = x at *
          generalize sY l n k = y at *
          have HR1 := Lib.hid (hrow.alloc (.cells #[.int .i64 x, .int .i64 y] 49))
          have HG1 := Lib.hid (Blk.new wr 49 #[.int .i64 x, .int .i64 y])
          have HB1 := Lib.hid (hB.alloc hsz (.cells #[.int .i64 x, .int .i64 y] 49))
          have HS2 : Hid ((wr.alloc (.cells #[.int .i64 x, .int .i64 y] 49)).heap.size = wr.heap.size + 1) := World.size_alloc _ _
          have hz1' : w3.heap.size ≤ (wr.alloc (.cells #[.int .i64 x, .int .i64 y] 49)).heap.size := by simp; omega
          clear hrow hB
          go_wp2_with (at_builtin; refine wpList_append_own _ rfl _ _ 35 rfl (w3.heap.size) 3 i0 (.int .i64 0) 1 8 Tryd.underlying35 hi hz0 hz1 hz2 rfl (by decide) _ _ _ rfl (HR1.out.alloc _) ⟨wr.heap.size + 1, 0, none⟩ 1 1 [.int .i64 x] rfl rfl (by have h_ := cell_one_new (wr.alloc (.cells #[.int .i64 x, .int .i64 y] 49)) (.int .i64 x) 3; rw [HS2.out] at h_; exact h_) (fun x hx => by simp at hx; subst hx; rfl) (by unfold maxLen; omega) (by omega) (by simp; omega) ?_; intro v2 w2 hown2 hgrow2 _)
          obtain ⟨hown3, hB2⟩ := push1 HR1.out hown2 hgrow2 hz1'
          rw [HXS.out] at hown3
          have HB6 := Lib.hid (HB1.out.trans (hB2.mono (Nat.le_refl _)))
          have HO6 := Lib.hid hown3
          clear hgrow2 hown2 hown3 hB2
          go_roundg g2
          case measure => omega
          case rel => exact ⟨k + 1, by omega, by go_num, HO6.out, HB6.out⟩
    · have HN : Hid (¬ DisP (n : Int) l) := fun h => hlen (by have := HD.out.1 h; omega)
      have d0 : decide ((1 : Int) < ((coreL' l n).length : Int)) = true := decide_eq_true (by omega)
      have HB3 := Lib.hid e3
      clear hlen o2 o3 e1 e2 e3 b2 b3 p0 p1 g1
      go_wp2_with fail
      go_ret2
      exact RetI.nil HN.out HB3.out
  · rw [okG_no hsm] at HF
    have HN : Hid (¬ DisP s l) := fun h => hsm h.1
    clear hsm
    go_enter Tryd.func15, Tryd.ntmps15
    go_wp2_with fail
    refine HF.out.mono ?_
    rintro e w1 ⟨rfl, b1⟩
    go_wp2_with fail
    go_ret2
    exact RetI.nil HN.out (btrans b0 b1)
end Go.Proofs.YtbdappkhkngdlabDoor.dismO
