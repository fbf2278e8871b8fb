/- The contracts of the program's fires: threatened, open, after, isFire. -/
import Derived.Handy
import Derived.Test.YtbbgbepemnmfdaaFireM
import Derived.Test.YtbbgbepemnmfdaaClosed
import Derived.Test.YtbbgbepemnmfdaaFrontI
import Derived.Test.YtbbgbepemnmfdaaBall
import Derived.Deep.DeepCutAuto
import Derived.Deep.RegionHeld3
import Derived.Deep.QuietTactic
namespace Go.Proofs.Ytbbgbepemnmfdaa.fires
open Go.RowKit P2 words edges ints good adjs fns sets rets covs bitsI bags ups fronts
set_option linter.unusedVariables false

set_option maxHeartbeats 1000000 in
set_option maxRecDepth 100000 in
theorem thr_any (n : Nat) (f : Fr) (v : Value) (l : List Ed) (w : World) (h : Nums w v (clos l n)) (hg : P2.Good (n : Int) l) (hn : n ≤ 8) (hf : FrOk n f) :
    Calls Try.prog 119 #[.agg #[.int .u64 (f.1 : Int), .int .u64 (f.2 : Int)], v] w fun e w' => e = .returned (.int .u64 (thrN l n f.1 f.2 : Int)) ∧ Below w.heap.size w w' := by
  obtain ⟨b, d⟩ := f
  obtain ⟨A, c, rfl, -⟩ := h.form
  have hb : b < 2 ^ n := hf.1
  have hd : d < 2 ^ n := hf.2
  have hb8 : b < 256 := Nat.lt_of_lt_of_le hb (pow_le hn)
  have b0 : Below w.heap.size w (w.alloc (.cells #[.int .u64 (b : Int), .int .u64 (d : Int)] 91)) := (Below.refl _ _).alloc (Nat.le_refl _) _
  obtain ⟨p0, p1, -, -⟩ := (Blk.new w 91 #[.int .u64 (b : Int), .int .u64 (d : Int)]).two
  have HCA := Lib.hid (fun (nq : Nat) => closedAround_any n b (.slice A (clos l n).length c) l ((w.alloc (.cells #[.int .u64 (b : Int), .int .u64 (d : Int)] 91)).drewN nq) ((h.below b0).below (below_drewN (Below.refl _ _) nq)) hg hn hb8)
  have h1 : bits .andNot .u64 ((arN l n b : Nat) : Int) (b : Int) = ((numOf (fun y => arB l n b y && !bitB b y) n : Nat) : Int) := by
    have := andNot_nn (arB l n b) (bitB b) hn
    rw [nbits hb] at this
    exact this
  have h2 : bits .andNot .u64 ((numOf (fun y => arB l n b y && !bitB b y) n : Nat) : Int) (d : Int) = ((thrN l n b d : Nat) : Int) := by
    have := andNot_nn (fun y => arB l n b y && !bitB b y) (bitB d) hn
    rw [nbits hd] at this
    exact this
  have HB0 := Lib.hid b0
  show Calls _ _ _ _ fun e w' => e = .returned (.int .u64 ((thrN l n b d : Nat) : Int)) ∧ _
  clear h hg hf b0 hb hd
  generalize thrN l n b d = y3 at *
  generalize numOf (fun y => arB l n b y && !bitB b y) n = y2 at *
  generalize arN l n b = y1 at *
  show Calls Try.prog _ #[.agg #[.int .u64 (b : Int), .int .u64 (d : Int)], .slice A (clos l n).length c] _ _
  go_enter Try.func119, Try.ntmps119
  go_wp2_with fail
  go_quiet (first | (go_at_call 108; exact quiet_left (HCA.out _)))
  go_wp2_with fail
  go_ret
  exact ⟨rfl, below_drewN HB0.out _⟩
set_option maxHeartbeats 1000000 in
set_option maxRecDepth 100000 in
theorem opn_any (n : Nat) (f : Fr) (v : Value) (l : List Ed) (w : World) (h : Nums w v (clos l n)) (hn : n ≤ 8) (hf : FrOk n f) :
    Calls Try.prog 117 #[.agg #[.int .u64 (f.1 : Int), .int .u64 (f.2 : Int)], v] w fun e w' => e = .returned (.int .u64 (opnN n f.1 f.2 : Int)) ∧ Below w.heap.size w w' := by
  obtain ⟨b, d⟩ := f
  obtain ⟨A, c, rfl, -⟩ := h.form
  have hb : b < 2 ^ n := hf.1
  have hd : d < 2 ^ n := hf.2
  have hcl := clos_len l n
  have b0 : Below w.heap.size w (w.alloc (.cells #[.int .u64 (b : Int), .int .u64 (d : Int)] 91)) := (Below.refl _ _).alloc (Nat.le_refl _) _
  obtain ⟨p0, p1, -, -⟩ := (Blk.new w 91 #[.int .u64 (b : Int), .int .u64 (d : Int)]).two
  have h0 : IntKind.u64.wrap (IntKind.u64.wrap ((2 : Int) ^ n) - 1) = ((numOf (fun _ => true) n : Nat) : Int) := shl_all hn
  have h1 : bits .andNot .u64 ((numOf (fun _ => true) n : Nat) : Int) (b : Int) = ((numOf (fun y => !bitB b y) n : Nat) : Int) := by
    have := andNot_nn (fun _ => true) (bitB b) hn
    rw [nbits hb] at this
    simpa using this
  have h2 : bits .andNot .u64 ((numOf (fun y => !bitB b y) n : Nat) : Int) (d : Int) = ((opnN n b d : Nat) : Int) := by
    have := andNot_nn (fun y => !bitB b y) (bitB d) hn
    rw [nbits hd] at this
    exact this
  have HB0 := Lib.hid b0
  show Calls _ _ _ _ fun e w' => e = .returned (.int .u64 ((opnN n b d : Nat) : Int)) ∧ _
  show Calls Try.prog _ #[.agg #[.int .u64 (b : Int), .int .u64 (d : Int)], .slice A (clos l n).length c] _ _
  rw [hcl]
  clear h hf b0 hb hd hcl
  generalize opnN n b d = y3 at *
  generalize numOf (fun y => !bitB b y) n = y2 at *
  generalize numOf (fun _ => true) n = y1 at *
  go_enter Try.func117, Try.ntmps117
  go_wp2_with fail
  go_quiet (fail)
  go_wp2_with fail
  go_ret
  exact ⟨rfl, below_drewN HB0.out _⟩
set_option maxHeartbeats 2000000 in
set_option maxRecDepth 100000 in
theorem aft_any (n : Nat) (f : Fr) (s : Nat) (v : Value) (l : List Ed) (w : World) (h : Nums w v (clos l n)) (hg : P2.Good (n : Int) l) (hn : n ≤ 8) (hf : FrOk n f) (hs : s < 2 ^ n) :
    Calls Try.prog 118 #[.agg #[.int .u64 (f.1 : Int), .int .u64 (f.2 : Int)], v, .int .u64 (s : Int)] w fun e w' => e = .returned (.agg #[.int .u64 ((aftF l n f s).1 : Int), .int .u64 ((aftF l n f s).2 : Int)]) ∧ Below w.heap.size w w' := by
  obtain ⟨b, d⟩ := f
  obtain ⟨A, c, rfl, -⟩ := h.form
  have hb : b < 2 ^ n := hf.1
  have hd : d < 2 ^ n := hf.2
  have hb8 : b < 256 := Nat.lt_of_lt_of_le hb (pow_le hn)
  have hd8 : d < 256 := Nat.lt_of_lt_of_le hd (pow_le hn)
  have hs8 : s < 256 := Nat.lt_of_lt_of_le hs (pow_le hn)
  have ht8 : thrN l n b (d ||| s) < 256 := numOf_lt _ hn
  have HTH := Lib.hid (fun (W : World) (hW : Below w.heap.size w W) => thr_any n (b, d ||| s) (.slice A (clos l n).length c) l W (h.below hW) hg hn ⟨hb, or_lt2 hd hs⟩)
  have h1 := bits_or_u64_nat d s (by omega) (by omega)
  have h2 := bits_or_u64_nat b (thrN l n b (d ||| s)) (by omega) (by omega)
  have g0 := (Blk.new w 91 #[.int .u64 (b : Int), .int .u64 (d : Int)])
  show Calls Try.prog _ #[.agg #[.int .u64 (b : Int), .int .u64 (d : Int)], .slice A (clos l n).length c, .int .u64 (s : Int)] _ fun e w' => e = .returned (.agg #[.int .u64 ((b ||| thrN l n b (d ||| s) : Nat) : Int), .int .u64 ((d ||| s : Nat) : Int)]) ∧ _
  clear h hg hf hb hd hb8 hd8 hs8 ht8
  go_enter Try.func118, Try.ntmps118
  go_wp2_with fail
  have g1 := (Blk.new w 91 #[.int .u64 (b : Int), .int .u64 ((d ||| s : Nat) : Int)]).alloc (.cells #[.int .u64 0, .int .u64 0] 91)
  have g2 := Blk.new (w.alloc (.cells #[.int .u64 (b : Int), .int .u64 ((d ||| s : Nat) : Int)] 91)) 91 #[.int .u64 0, .int .u64 0]
  rw [World.size_alloc] at g2
  have bx : Below w.heap.size w ((w.alloc (.cells #[.int .u64 (b : Int), .int .u64 ((d ||| s : Nat) : Int)] 91)).alloc (.cells #[.int .u64 0, .int .u64 0] 91)) := ((Below.refl _ _).alloc (Nat.le_refl _) _).alloc (by simp) _
  have hsz : ((w.alloc (.cells #[.int .u64 (b : Int), .int .u64 ((d ||| s : Nat) : Int)] 91)).alloc (.cells #[.int .u64 0, .int .u64 0] 91)).heap.size = w.heap.size + 2 := by simp
  have HSZ := Lib.hid hsz
  clear hsz g0
  generalize (w.alloc (.cells #[.int .u64 (b : Int), .int .u64 ((d ||| s : Nat) : Int)] 91)).alloc (.cells #[.int .u64 0, .int .u64 0] 91) = wx at *
  have HT := Lib.hid (HTH.out wx.drew bx.drew)
  have HG1 := Lib.hid g1
  have HG2 := Lib.hid g2
  have HBX := Lib.hid bx
  obtain ⟨p0, p1, z0, z1⟩ := g1.two
  clear g1 g2 bx HTH
  generalize hT : thrN l n b (d ||| s) = t at *
  have HTT := Lib.hid hT
  clear hT
  go_region_with (go_at_call 119; (with_reducible refine HT.out.mono ?_); rintro e w3 ⟨rfl, b3⟩; have d3 : Below wx.heap.size wx w3 := btrans (Below.refl _ _).drew b3; obtain ⟨k0, k1, k2, k3⟩ := (HG1.out.below d3 HG1.out.lt).two)
  all_goals
    have HG3 : Hid (Blk (w3.setCell ⟨w.heap.size, 0, none⟩ (.int .u64 ((b ||| t : Nat) : Int))) w.heap.size 91 #[.int .u64 ((b ||| t : Nat) : Int), .int .u64 ((d ||| s : Nat) : Int)]) := by
      have h_ := (HG1.out.below d3 HG1.out.lt).set_ 0 (.int .u64 ((b ||| t : Nat) : Int))
      show Blk _ _ _ _
      simpa using h_
    have HG4 := Lib.hid ((HG2.out.below d3 HG2.out.lt).far (p := ⟨w.heap.size, 0, none⟩) (by simp) (.int .u64 ((b ||| t : Nat) : Int)))
    have HB4 := Lib.hid ((btrans HBX.out d3).setCell (p := ⟨w.heap.size, 0, none⟩) (Nat.le_refl _) (.int .u64 ((b ||| t : Nat) : Int)))
    clear p0 p1 z0 z1 k0 k1 k2 k3 b3 d3
    generalize w3.setCell ⟨w.heap.size, 0, none⟩ (.int .u64 ((b ||| t : Nat) : Int)) = w4 at *
    obtain ⟨m0, m1, -, -⟩ := HG3.out.two
    obtain ⟨m2, m3, y2, y3⟩ := HG4.out.two
    go_wp2_with fail
    have HG6 : Hid (Blk ((w4.setCell ⟨w.heap.size + 1, 0, none⟩ (.int .u64 ((b ||| t : Nat) : Int))).setCell ⟨w.heap.size + 1, 1, none⟩ (.int .u64 ((d ||| s : Nat) : Int))) (w.heap.size + 1) 91 #[.int .u64 ((b ||| t : Nat) : Int), .int .u64 ((d ||| s : Nat) : Int)]) := by
      have h_ := (HG4.out.set_ 0 (.int .u64 ((b ||| t : Nat) : Int))).set_ 1 (.int .u64 ((d ||| s : Nat) : Int))
      show Blk _ _ _ _
      simpa using h_
    have HB6 := Lib.hid ((HB4.out.setCell (p := ⟨w.heap.size + 1, 0, none⟩) (by simp) (.int .u64 ((b ||| t : Nat) : Int))).setCell (p := ⟨w.heap.size + 1, 1, none⟩) (by simp) (.int .u64 ((d ||| s : Nat) : Int)))
    obtain ⟨q0, q1, -, -⟩ := HG6.out.two
    refine bodyPost_ret (v := .agg #[.int .u64 ((b ||| t : Nat) : Int), .int .u64 ((d ||| s : Nat) : Int)]) (by simp [results, Try.results118, go_sem, q0, q1]) rfl ⟨by rw [HTT.out], HB6.out⟩
/-- a valid Graph, a node of it and a number of defenders -/
def FireP (s : Int) (l : List Ed) (start d : Int) : Prop := nodesB s l [start] = true ∧ 0 ≤ d ∧ d ≤ 3
set_option maxHeartbeats 1000000 in
set_option maxRecDepth 100000 in
theorem isFire_any (s start d : Int) (v : Value) (l : List Ed) (w : World) (h : Edges w v l) (hl : l.length ≤ 1048576) :
    Calls Try.prog 76 #[.agg #[.int .i64 s, v], .int .i64 start, .int .i64 d] w fun e w' => e = .returned (.bool (okG (FireP s l start d))) ∧ Below w.heap.size w w' := by
  obtain ⟨A, c, rfl, -⟩ := h.form
  have b0 : Below w.heap.size w ((w.alloc (.cells #[.int .i64 s, .slice A l.length c] 29)).alloc (.cells #[.int .i64 start] 3)) := ((Below.refl _ _).alloc (Nat.le_refl _) _).alloc (by simp) _
  obtain ⟨p0, p1, -, -⟩ := (Blk.new w 29 #[.int .i64 s, .slice A l.length c]).two
  have g2 := Blk.new (w.alloc (.cells #[.int .i64 s, .slice A l.length c] 29)) 3 #[.int .i64 start]
  rw [World.size_alloc] at g2
  have hI : Ints ((w.alloc (.cells #[.int .i64 s, .slice A l.length c] 29)).alloc (.cells #[.int .i64 start] 3)) (.slice (some ⟨w.heap.size + 1, 0, none⟩) 1 1) [start] := balls.one_reads g2
  have HNB := Lib.hid (hasNodes_any s (.slice A l.length c) (.slice (some ⟨w.heap.size + 1, 0, none⟩) 1 1) l [start] _ (h.below b0) hl hI (by simp))
  have HB0 := Lib.hid b0
  clear h b0 g2 hI
  cases hnb : nodesB s l [start] with
  | true =>
    rw [hnb] at HNB
    by_cases h1 : 0 ≤ d
    · by_cases h2 : d ≤ 3
      · have HV : Hid (okG (FireP s l start d) = true) := okG_yes ⟨hnb, h1, h2⟩
        clear hnb
        go_enter Try.func76, Try.ntmps76
        go_wp2_with fail
        refine HNB.out.mono ?_
        rintro e w1 ⟨rfl, b1⟩
        go_wp2_with fail
        go_ret
        exact ⟨ret_bool HV.out.symm, btrans HB0.out b1⟩
      · have HV : Hid (okG (FireP s l start d) = false) := okG_no fun h => h2 h.2.2
        clear hnb
        go_enter Try.func76, Try.ntmps76
        go_wp2_with fail
        refine HNB.out.mono ?_
        rintro e w1 ⟨rfl, b1⟩
        go_wp2_with fail
        go_ret
        exact ⟨ret_bool (by rw [HV.out]; exact decide_eq_false (by omega)), btrans HB0.out b1⟩
    · have HV : Hid (okG (FireP s l start d) = false) := okG_no fun h => h1 h.2.1
      clear hnb
      go_enter Try.func76, Try.ntmps76
      go_wp2_with fail
      refine HNB.out.mono ?_
      rintro e w1 ⟨rfl, b1⟩
      go_wp2_with fail
      go_ret
      exact ⟨ret_bool HV.out.symm, btrans HB0.out b1⟩
  | false =>
    rw [hnb] at HNB
    have HV : Hid (okG (FireP s l start d) = false) := okG_no fun h => by have := h.1; rw [hnb] at this; cases this
    clear hnb
    go_enter Try.func76, Try.ntmps76
    go_wp2_with fail
    refine HNB.out.mono ?_
    rintro e w1 ⟨rfl, b1⟩
    go_wp2_with fail
    go_ret
    exact ⟨ret_bool HV.out.symm, btrans HB0.out b1⟩
end Go.Proofs.Ytbbgbepemnmfdaa.fires
