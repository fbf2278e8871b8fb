/- Forcing: the contracts of the program's rounds and last. -/
import Derived.Handy
import Derived.Test.YtfphpilabfpmjaaForcI
import Derived.Deep.DeepCutAuto
import Derived.Deep.RegionHeld3
import Derived.Deep.QuietTactic
namespace Go.Proofs.Ytfphpilabfpmjaa.forc
open Go.RowKit P2 words edges ints good adjs fns sets rets covs bags bitsI ups func gridr
set_option linter.unusedVariables false

/-- colourings, as cells -/
def cellsC (sk : Bool) (L : List Nat) : List Value := L.flatMap fun d : Nat => [.int .u64 (d : Int), .bool sk]
theorem cellsC_app (sk : Bool) (L M : List Nat) : cellsC sk (L ++ M) = cellsC sk L ++ cellsC sk M := by simp [cellsC]
theorem infoC : (Try.prog.info? 55).map (fun i => (i.zero, i.size, i.bytes)) = some (some (.agg #[.int .u64 0, .bool false]), 2, 16) := by kernel_rfl
theorem pushC {w1 w2 : World} {B : Nat} {s v2 : Value} {m : List Nat} {d : Nat} {sk : Bool} {o : Obj} (hrow : w1.ownsRow B 55 2 s m.length (cellsC sk m)) (hown : w2.ownsRow B 55 2 v2 (m.length + 1) (cellsC sk m ++ [.int .u64 (d : Int), .bool sk]))
    (hg : (w1.alloc o).grownBy w2 s.ownBlock) (hB : B ≤ w1.heap.size) : w2.ownsRow B 55 2 v2 (m ++ [d]).length (cellsC sk (m ++ [d])) ∧ Below B w1 w2 :=
  ⟨by rw [cellsC_app, List.length_append]; exact hown, ((Below.refl B w1).alloc hB _).grown hg (by simp; omega) (fun j e => (hrow.lt j e).1)⟩
set_option maxHeartbeats 8000000 in
set_option maxRecDepth 100000 in
theorem rounds_any (n c : Nat) (sk : Bool) (v : Value) (l : List Ed) (w : World) (h : Nums w v (clos l n)) (hg : P2.Good (n : Int) l) (hn : n ≤ 8) (hc : c < 2 ^ n) :
    Calls Try.prog 65 #[.agg #[.int .u64 (c : Int), .bool sk], v] w fun e w' => ∃ A2 c2, e = .returned (.slice A2 (rnds n l sk c).length c2) ∧ w'.ownsRow w.heap.size 55 2 (.slice A2 (rnds n l sk c).length c2) (rnds n l sk c).length (cellsC sk (rnds n l sk c)) ∧ Below w.heap.size w w' := by
  obtain ⟨i0, hi, hz0, hz1, hz2⟩ := info_parts infoC
  obtain ⟨A, cc, rfl, -⟩ := h.form
  have hlen := clos_len l n
  have HAF := Lib.hid (fun (W : World) (hW : Below w.heap.size w W) (d : Nat) (hd : d < 2 ^ n) => after_any n d sk (.slice A (clos l n).length cc) l W (h.below hW) hg hn hd)
  rw [hlen] at HAF ⊢
  have HC := Lib.hid hc
  have H0 : Hid ([] ++ rndL n l sk 8 c = rnds n l sk c) := rfl
  have HRL : Hid ((rnds n l sk c).length ≤ 9) := (rnd_len n l sk 8 c).2
  generalize hR : rnds n l sk c = R at *
  clear hR
  clear h hg hlen hc
  go_enter Try.func65, Try.ntmps65
  go_wp2_with fail
  have HG0 := Lib.hid ((Blk.new w 55 #[.int .u64 (c : Int), .bool sk]).alloc (.cells #[.int .u64 (c : Int), .bool sk] 55))
  have HB0 : Hid (Below w.heap.size w ((w.alloc (.cells #[.int .u64 (c : Int), .bool sk] 55)).alloc (.cells #[.int .u64 (c : Int), .bool sk] 55))) := ((Below.refl _ _).alloc (Nat.le_refl _) _).alloc (by simp) _
  have o0 := World.ownsRow_lit (base := w.heap.size + 1) (e := 55) (size := 2) (w.alloc (.cells #[.int .u64 (c : Int), .bool sk] 55)) #[.int .u64 (c : Int), .bool sk] 1 (by simp) (by unfold maxLen; omega) rfl
  rw [World.size_alloc] at o0
  have HO0 := Lib.hid o0
  have HSZ : Hid (((w.alloc (.cells #[.int .u64 (c : Int), .bool sk] 55)).alloc (.cells #[.int .u64 (c : Int), .bool sk] 55)).heap.size = w.heap.size + 2) := by show _ = _; simp
  have HA1 := Lib.hid (HAF.out _ HB0.out c HC.out)
  clear o0
  generalize ((w.alloc (.cells #[.int .u64 (c : Int), .bool sk] 55)).alloc (.cells #[.int .u64 (c : Int), .bool sk] 55)) = w1 at *
  refine HA1.out.mono ?_
  rintro e w2 ⟨rfl, b2⟩
  have HG2 := Lib.hid (HG0.out.below b2 HG0.out.lt)
  have HB2 := Lib.hid (btrans HB0.out b2)
  have HO2 := Lib.hid (own_below HO0.out b2)
  have hz2' := b2.size
  have HZ2 : Hid (w.heap.size + 2 ≤ w2.heap.size) := by show _ ≤ _; rw [← HSZ.out]; exact hz2'
  clear b2 hz2' HG0 HB0 HO0 HA1 HSZ
  go_wp2_with fail
  have HGN := Lib.hid (Blk.new w2 55 #[.int .u64 (onN n l sk c : Int), .bool sk])
  have HG3 := Lib.hid (HG2.out.alloc (.cells #[.int .u64 (onN n l sk c : Int), .bool sk] 55))
  have HB3 := Lib.hid (HB2.out.alloc HB2.out.size (.cells #[.int .u64 (onN n l sk c : Int), .bool sk] 55))
  have HO3 := Lib.hid (HO2.out.alloc (.cells #[.int .u64 (onN n l sk c : Int), .bool sk] 55))
  have HNE : Hid (w.heap.size < w2.heap.size ∧ ∀ q, (Value.slice (some ⟨w.heap.size + 1, 0, none⟩) 1 1).ownBlock = some q → q ≠ w2.heap.size) := ⟨by have := HZ2.out; omega, fun q hq => by
    have := (HO2.out.lt q hq).2; omega⟩
  clear HG2 HB2 HO2
  go_loopg [5, 6] 8 (fun g av nv wr => ∃ (d nb : Nat) (M : List Nat) (ow : Value), ow = av ∧ nv = .pointer (some ⟨nb, 0, none⟩) ∧ Hid (d < 2 ^ n) ∧ Hid (8 ≤ onesN d + g) ∧ Hid (∃ pre, M = pre ++ [d] ∧ pre ++ rndL n l sk g d = R) ∧ wr.ownsRow (w.heap.size + 1) 55 2 ow M.length (cellsC sk M) ∧ Blk wr w.heap.size 55 #[.int .u64 (d : Int), .bool sk] ∧ Blk wr nb 55 #[.int .u64 (onN n l sk d : Int), .bool sk] ∧ Hid (w.heap.size < nb ∧ ∀ q, ow.ownBlock = some q → q ≠ nb) ∧ Below w.heap.size w wr)
  case atStart => exact ⟨c, w2.heap.size, [c], _, rfl, rfl, HC, Lib.hid (by omega), ⟨[], rfl, H0.out⟩, HO3.out, HG3.out, HGN.out, HNE, HB3.out⟩
  case round =>
    clear HG3 HGN HB3 HO3 HNE H0
    obtain ⟨d, nb, M, ow, rfl, rfl, hdn, hms, hrs, hrow, hg0, hgn, hne, hB⟩ := hrel
    obtain ⟨A4, c4, rfl⟩ := own_form hrow
    have HR := Lib.hid hrow
    have HG := Lib.hid hg0
    have HN := Lib.hid hgn
    have HB := Lib.hid hB
    obtain ⟨p0, p1, y0, y1⟩ := hg0.two
    obtain ⟨m0, m1, -, -⟩ := hgn.two
    clear hrow hg0 hgn hB
    by_cases he : onN n l sk d = d
    · have HV : Hid (R = M) := by
        obtain ⟨pre, h1, h2⟩ := hrs.out
        show _ = _; rw [← h2, (rnd_stop he).1, h1]
      rw [he] at m0
      clear he
      go_wp2_with fail
      go_ret
      rw [HV.out]
      exact ⟨A4, c4, rfl, own_base HR.out (by omega), HB.out⟩
    · obtain ⟨g2, rfl, hms2⟩ := rnd_fuel hn hdn.out hms.out he
      have HMS := Lib.hid hms2
      have HD : Hid (onN n l sk d < 2 ^ n) := on_lt hdn.out
      have HRS : Hid (∃ pre, M ++ [onN n l sk d] = pre ++ [onN n l sk d] ∧ pre ++ rndL n l sk g2 (onN n l sk d) = R) := by
        obtain ⟨pre, h1, h2⟩ := hrs.out
        have hxx := rnd_go (f := g2) he
        exact ⟨M, rfl, by rw [← h2, hxx.1, h1]; simp⟩
      have hpl : M.length ≤ 9 := by
        obtain ⟨pre, h1, h2⟩ := hrs.out
        have h3 := congrArg List.length h2
        have h4 := (rnd_len n l sk (g2 + 1) d).1
        have := HRL.out
        rw [List.length_append] at h3
        rw [h1, List.length_append, List.length_singleton]; omega
      have he2 : (onN n l sk d == d) = false := by rw [beq_eq_false_iff_ne]; exact he
      have he1 : ((onN n l sk d : Int) == (d : Int)) = false := by rw [beq_eq_false_iff_ne]; omega
      have he3 : ((onN n l sk d : Int) != (d : Int)) = true := by rw [bne_iff_ne]; omega
      have hlt0 := HG.out.lt
      have hne0 : some w.heap.size ≠ (Value.slice A4 M.length c4).ownBlock := fun e => by have := (HR.out.lt _ e.symm).1; omega
      have hne1 : some nb ≠ (Value.slice A4 M.length c4).ownBlock := fun e => hne.out.2 nb e.symm rfl
      have HA2 := Lib.hid (fun (W : World) (hW : Below w.heap.size w W) => HAF.out W hW (onN n l sk d) HD.out)
      clear hms2 he hrs
      generalize hN2 : onN n l sk d = d2 at *
      have HN2 := Lib.hid hN2
      clear hN2
      go_wp2_with
        (at_builtin
         go_loud (refine wpList_append_own _ rfl _ _ 64 rfl (w.heap.size + 1) 55 i0 (.agg #[.int .u64 0, .bool false]) 2 16 Try.underlying64 hi hz0 hz1 hz2 rfl (by decide) _ _ _ rfl (HR.out.alloc _) ⟨wr.heap.size, 0, none⟩ 1 1 [.int .u64 (d2 : Int), .bool sk] rfl rfl (cell_two_new _ _ _ _) (fun x hx => by simp at hx; rcases hx with rfl | rfl <;> rfl) (by unfold maxLen; omega) (by omega) (by simp; omega) ?_)
         intro v2 w8 hown2 hgrow2 _
         have HG8 := Lib.hid ((HG.out.alloc (.cells #[.int .u64 (d2 : Int), .bool sk] 55)).grown hgrow2 hne0)
         have HN8 := Lib.hid ((HN.out.alloc (.cells #[.int .u64 (d2 : Int), .bool sk] 55)).grown hgrow2 hne1)
         obtain ⟨hown3, hB8⟩ := pushC HR.out hown2 hgrow2 (by omega)
         have HR8 := Lib.hid hown3
         have HB8 := Lib.hid (HB.out.trans (hB8.mono (by omega)))
         have HNB8 : Hid (∀ q, v2.ownBlock = some q → q < w8.heap.size) := fun q hq => by have := (hown3.lt q hq).2; omega
         clear hown2 hgrow2 hown3 hB8 p0 p1 y0 y1 m0 m1
         have HG9 : Hid (Blk ((w8.setCell ⟨w.heap.size, 0, none⟩ (.int .u64 (d2 : Int))).setCell ⟨w.heap.size, 1, none⟩ (.bool sk)) w.heap.size 55 #[.int .u64 (d2 : Int), .bool sk]) := by
           have h_ := (HG8.out.set_ 0 (.int .u64 (d2 : Int))).set_ 1 (.bool sk)
           show Blk _ _ _ _
           simpa using h_
         have hnb : nb ≠ w.heap.size := by have := hne.out.1; omega
         have HN9 : Hid (Blk ((w8.setCell ⟨w.heap.size, 0, none⟩ (.int .u64 (d2 : Int))).setCell ⟨w.heap.size, 1, none⟩ (.bool sk)) nb 55 #[.int .u64 (d2 : Int), .bool sk]) := (HN8.out.far (p := ⟨w.heap.size, 0, none⟩) hnb (.int .u64 (d2 : Int))).far (p := ⟨w.heap.size, 1, none⟩) hnb (.bool sk)
         have HG10 := Lib.hid (HG9.out.alloc (.cells #[.int .u64 (d2 : Int), .bool sk] 55))
         obtain ⟨p0, p1, y0, y1⟩ := HG8.out.two
         obtain ⟨m0, m1, -, -⟩ := HN8.out.two
         obtain ⟨p2, p3, -, -⟩ := HG9.out.two
         obtain ⟨m2, m3, -, -⟩ := HN9.out.two
         obtain ⟨p4, p5, -, -⟩ := HG10.out.two)
      have HSE : Hid (((w8.setCell ⟨w.heap.size, 0, none⟩ (.int .u64 (d2 : Int))).setCell ⟨w.heap.size, 1, none⟩ (.bool sk)).heap.size = w8.heap.size) := by show _ = _; simp
      have HK10 : Hid (Blk (((w8.setCell ⟨w.heap.size, 0, none⟩ (.int .u64 (d2 : Int))).setCell ⟨w.heap.size, 1, none⟩ (.bool sk)).alloc (.cells #[.int .u64 (d2 : Int), .bool sk] 55)) w8.heap.size 55 #[.int .u64 (d2 : Int), .bool sk]) := by
        have h_ := Blk.new ((w8.setCell ⟨w.heap.size, 0, none⟩ (.int .u64 (d2 : Int))).setCell ⟨w.heap.size, 1, none⟩ (.bool sk)) 55 #[.int .u64 (d2 : Int), .bool sk]
        rw [HSE.out] at h_
        exact h_
      have hneR : v2.ownBlock = none ∨ v2.ownBlock ≠ some w.heap.size := by
        cases hv : v2.ownBlock with
        | none => exact .inl rfl
        | some q => exact .inr fun e => by cases e; have := (HR8.out.lt _ hv).1; omega
      have HR10 := Lib.hid ((HR8.out.kept (gset (gset (World.grownBy.refl w8 (some w.heap.size)) 0 (.int .u64 (d2 : Int))) 1 (.bool sk)) hneR).alloc (.cells #[.int .u64 (d2 : Int), .bool sk] 55))
      have HB10 := Lib.hid (((HB8.out.setCell (p := ⟨w.heap.size, 0, none⟩) (Nat.le_refl _) (.int .u64 (d2 : Int))).setCell (p := ⟨w.heap.size, 1, none⟩) (Nat.le_refl _) (.bool sk)).alloc (by rw [HSE.out]; exact HB8.out.size) (.cells #[.int .u64 (d2 : Int), .bool sk] 55))
      have HLT8 : Hid (w.heap.size < w8.heap.size) := HG8.out.lt
      clear p0 p1 y0 y1 m0 m1 p2 p3 m2 m3 p4 p5 HG8 HN8 HG9 HN9 hneR HR8 HB8
      generalize ((w8.setCell ⟨w.heap.size, 0, none⟩ (.int .u64 (d2 : Int))).setCell ⟨w.heap.size, 1, none⟩ (.bool sk)).alloc (.cells #[.int .u64 (d2 : Int), .bool sk] 55) = w10 at *
      refine (HA2.out w10 HB10.out).mono ?_
      rintro e w11 ⟨rfl, b11⟩
      have HG11 := Lib.hid (HG10.out.below b11 HG10.out.lt)
      have HK11 := Lib.hid (HK10.out.below b11 HK10.out.lt)
      have HR11 := Lib.hid (own_below HR10.out b11)
      have HB11 := Lib.hid (btrans HB10.out b11)
      clear b11 HG10 HK10 HR10 HB10 HA2
      obtain ⟨m0, m1, y0, y1⟩ := HK11.out.two
      generalize hN3 : onN n l sk d2 = d3 at *
      have HN3 := Lib.hid hN3
      clear hN3
      go_wp2_with fail
      have HK12 : Hid (Blk ((w11.setCell ⟨w8.heap.size, 0, none⟩ (.int .u64 (d3 : Int))).setCell ⟨w8.heap.size, 1, none⟩ (.bool sk)) w8.heap.size 55 #[.int .u64 (d3 : Int), .bool sk]) := by
        have h_ := (HK11.out.set_ 0 (.int .u64 (d3 : Int))).set_ 1 (.bool sk)
        show Blk _ _ _ _
        simpa using h_
      have HG12 := Lib.hid ((HG11.out.far (p := ⟨w8.heap.size, 0, none⟩) (by have := HLT8.out; show w.heap.size ≠ w8.heap.size; omega) (.int .u64 (d3 : Int))).far (p := ⟨w8.heap.size, 1, none⟩) (by have := HLT8.out; show w.heap.size ≠ w8.heap.size; omega) (.bool sk))
      have hneR : v2.ownBlock = none ∨ v2.ownBlock ≠ some w8.heap.size := by
        cases hv : v2.ownBlock with
        | none => exact .inl rfl
        | some q => exact .inr fun e => by cases e; have := HNB8.out _ hv; omega
      have HR12 := Lib.hid (HR11.out.kept (gset (gset (World.grownBy.refl w11 (some w8.heap.size)) 0 (.int .u64 (d3 : Int))) 1 (.bool sk)) hneR)
      have HB12 := Lib.hid ((HB11.out.setCell (p := ⟨w8.heap.size, 0, none⟩) (Nat.le_of_lt HLT8.out) (.int .u64 (d3 : Int))).setCell (p := ⟨w8.heap.size, 1, none⟩) (Nat.le_of_lt HLT8.out) (.bool sk))
      go_roundg g2
      case measure => omega
      case rel => exact ⟨d2, w8.heap.size, M ++ [d2], _, rfl, rfl, HD, HMS, HRS, HR12.out, HG12.out, by rw [HN3.out]; exact HK12.out, ⟨HLT8.out, fun q hq => by have := HNB8.out q hq; omega⟩, HB12.out⟩
end Go.Proofs.Ytfphpilabfpmjaa.forc
