/- The contracts of the program's BallOf. -/
import Derived.Handy
import Derived.Test.YtcnfeijniidclaaDistF
import Derived.Test.YtcnfeijniidclaaDistM
import Derived.Test.YtcnfeijniidclaaMid
import Derived.Deep.DeepCutAuto
import Derived.Deep.RegionHeld3
import Derived.BigQuiet
namespace Go.Proofs.Ytcnfeijniidclaa.ballo
open Go.RowKit P2 words edges ints good near adjs fns rets nearv sets queue reps distf
set_option linter.unusedVariables false

noncomputable def ballL (n : Nat) (l : List Ed) (x : Nat) (r : Int) : List Int := nw (fun y => inB (fn (dist n (J0 l) x) y) 0 r) n
def BallOk (s : Int) (l : List Ed) (x r : Int) : Prop := nodesB s l [x] = true ∧ 0 ≤ r
theorem ball_len (s x r : Int) (l : List Ed) : (inG (BallOk s l x r) (ballL s.toNat l x.toNat r)).length ≤ 1048576 := inG_len fun h => by
  have h1 := (nodesB_iff.1 h.1).1.2.1
  have h2 := nw_len (fun y => inB (fn (dist s.toNat (J0 l) x.toNat) y) 0 r) s.toNat
  unfold ballL
  omega
theorem tneD : (3 : TypeId) ≠ 26 := by decide
/-- the variable of the distances is made and filled -/
def CutB (w wx : World) (a : Value) (n : Nat) (A : Option Addr) (c : Nat) (l : List Ed) (r : Int) (D : List Int) : Prop :=
  ∃ p A5 c5, a = .pointer (some ⟨p, 0, none⟩) ∧ Blk wx p 26 #[.slice A5 D.length c5] ∧ Ints wx (.slice A5 D.length c5) D ∧
    Blk wx w.heap.size 29 #[.int .i64 (n : Int), .slice A l.length c] ∧ Blk wx (w.heap.size + 1) 3 #[.int .i64 r] ∧ Below w.heap.size w wx
theorem CutB.put {w w3 : World} {p n c c5 B : Nat} {A A5 : Option Addr} {l : List Ed} {r : Int} {D : List Int} {a : Value} (hb : Blk w3 p 26 #[a]) (ho : w3.ownsRow B 3 1 (.slice A5 D.length c5) D.length (cellsI D))
    (hg : Blk w3 w.heap.size 29 #[.int .i64 (n : Int), .slice A l.length c]) (hx : Blk w3 (w.heap.size + 1) 3 #[.int .i64 r]) (hB : Below w.heap.size w w3) (hp : w.heap.size + 1 < p) :
    CutB w (w3.setCell ⟨p, 0, none⟩ (.slice A5 D.length c5)) (.pointer (some ⟨p, 0, none⟩)) n A c l r D :=
  ⟨p, A5, c5, rfl, hb.set_ 0 _, Reads.of_own (ho.kept (gset (World.grownBy.refl w3 (some p)) 0 _) (.inr (mids.own_ne ho hb tneD))), hg.far (by show w.heap.size ≠ p; omega) _, hx.far (by show w.heap.size + 1 ≠ p; omega) _, hB.setCell (by show w.heap.size ≤ p; omega) _⟩
theorem CutB.new {w w3 : World} {n c c5 B : Nat} {A A5 : Option Addr} {l : List Ed} {r : Int} {D : List Int} (ho : w3.ownsRow B 3 1 (.slice A5 D.length c5) D.length (cellsI D))
    (hg : Blk w3 w.heap.size 29 #[.int .i64 (n : Int), .slice A l.length c]) (hx : Blk w3 (w.heap.size + 1) 3 #[.int .i64 r]) (hB : Below w.heap.size w w3) :
    CutB w (w3.alloc (.cells #[.slice A5 D.length c5] 26)) (.pointer (some ⟨w3.heap.size, 0, none⟩)) n A c l r D :=
  ⟨w3.heap.size, A5, c5, rfl, Blk.new _ _ _, Reads.of_own (ho.alloc _), hg.alloc _, hx.alloc _, hB.alloc hB.size _⟩

theorem ballClo_any (y : Nat) (r : Int) (bd br : Nat) (v : Value) (D : List Int) (w : World) (h1 : w.cell? ⟨bd, 0, none⟩ = some v) (hv : Ints w v D) (h2 : w.cell? ⟨br, 0, none⟩ = some (.int .i64 r)) (hy : y < D.length) :
    Calls Try.prog 54 #[.int .i64 (y : Int), .pointer (some ⟨bd, 0, none⟩), .pointer (some ⟨br, 0, none⟩)] w fun e w' => e = .returned (.bool (inB (fn D y) 0 r)) ∧ Below w.heap.size w w' := by
  obtain ⟨A, c, rfl, hc⟩ := hv.form
  obtain ⟨d, hd⟩ : ∃ d, D[y]? = some d := ⟨_, List.getElem?_eq_getElem hy⟩
  obtain ⟨g, o, rfl, t0⟩ := hc y d hd
  rw [fn_at hd]
  have hy' : (y : Int) < (D.length : Int) := by omega
  have hy0 : (0 : Int) ≤ (y : Int) := by omega
  have HB : Hid (Below w.heap.size w w) := Below.refl _ _
  clear hc hd hv
  by_cases h0 : 0 ≤ d
  · have e0 : decide (0 ≤ d) = true := by simpa using h0
    by_cases h3 : d ≤ r
    · have e1 : decide (d ≤ r) = true := by simpa using h3
      have HI : Hid (inB d 0 r = true) := by show _ = _; simp [inB, h0, h3]
      rw [HI.out]
      go_enter Try.func54, Try.ntmps54
      go_wp2_with fail
      go_quiet (fail)
      go_wp2_with fail
      go_ret
      exact ⟨rfl, below_drewN HB.out _⟩
    · have e1 : decide (d ≤ r) = false := by simpa using h3
      have HI : Hid (inB d 0 r = false) := by show _ = _; simp [inB, h0, h3]
      rw [HI.out]
      go_enter Try.func54, Try.ntmps54
      go_wp2_with fail
      go_quiet (fail)
      go_wp2_with fail
      go_ret
      exact ⟨rfl, below_drewN HB.out _⟩
  · have e0 : decide (0 ≤ d) = false := by simpa using h0
    have HI : Hid (inB d 0 r = false) := by show _ = _; simp [inB, h0]
    rw [HI.out]
    go_enter Try.func54, Try.ntmps54
    go_wp2_with fail
    go_quiet (fail)
    go_wp2_with fail
    go_ret
    exact ⟨rfl, below_drewN HB.out _⟩
theorem ballClo_fn (n : Nat) (r : Int) (bd br : Nat) (v : Value) (D : List Int) (w : World) (h1 : w.cell? ⟨bd, 0, none⟩ = some v) (hv : Ints w v D) (h2 : w.cell? ⟨br, 0, none⟩ = some (.int .i64 r)) (hy : D.length = n) :
    Fn1 w 54 #[.pointer (some ⟨bd, 0, none⟩), .pointer (some ⟨br, 0, none⟩)] n (fun y => inB (fn D y) 0 r) where
  enter := fun _ _ => by kernel_rfl
  call := fun W hb y hyn => ballClo_any y r bd br v D W (nearv.cell_keep h1 hb) (hv.below hb) (nearv.cell_keep h2 hb) (by omega)
set_option maxHeartbeats 4000000 in
set_option maxRecDepth 100000 in
theorem implBall_any (s x r : Int) (v : Value) (l : List Ed) (w : World) (h : Edges w v l) (hl : l.length ≤ 1048576) :
    Calls Try.prog 16 #[.agg #[.int .i64 s, v], .int .i64 x, .int .i64 r] w (RetI w (BallOk s l x r) (ballL s.toNat l x.toNat r)) := by
  obtain ⟨A, c, rfl, -⟩ := h.form
  have H := Lib.hid h
  clear h
  have hmf : ∀ (fn : Fn) (first cap : Array Value) (w : World), (Instr.makeFunc fn first cap).run Try.prog w = .ok (.func fn first cap) w := fun _ _ _ _ => rfl
  have b0 : Below w.heap.size w (((w.alloc (.cells #[.int .i64 s, .slice A l.length c] 29)).alloc (.cells #[.int .i64 r] 3)).alloc (.cells #[.int .i64 x] 3)) := by
    repeat refine Below.alloc ?_ (by first | exact Nat.le_refl _ | (simp only [World.size_alloc]; omega)) _
    exact Below.refl _ _
  have g0 := ((Blk.new w 29 #[.int .i64 s, .slice A l.length c]).alloc (.cells #[.int .i64 r] 3)).alloc (.cells #[.int .i64 x] 3)
  have x0 := (Blk.new (w.alloc (.cells #[.int .i64 s, .slice A l.length c] 29)) 3 #[.int .i64 r]).alloc (.cells #[.int .i64 x] 3)
  have i1 := Reads.of_own (own_new1 ((w.alloc (.cells #[.int .i64 s, .slice A l.length c] 29)).alloc (.cells #[.int .i64 r] 3)) 3 x)
  simp only [World.size_alloc] at x0 i1
  have HN := Lib.hid (hasNodes_any s (.slice A l.length c) (.slice (some ⟨w.heap.size + 1 + 1, 0, none⟩) 1 1) l [x] _ (H.out.below b0) hl i1 (by simp))
  clear i1
  by_cases hg : nodesB s l [x] = true
  · have hgd : P2.Good s l ∧ ∀ y ∈ [x], 0 ≤ y ∧ y < s := nodesB_iff.1 hg
    rw [hg] at HN
    have HNB := Lib.hid hg
    have hs0 := hgd.1.1
    have hs8 := hgd.1.2.1
    have hxx := hgd.2 x (by simp)
    by_cases hr : r < 0
    · have d0 : decide (r < 0) = true := by simpa using hr
      have HNO : Hid (¬ BallOk s l x r) := fun hh => by have := hh.2; omega
      clear hg hgd
      go_enter Try.func16, Try.ntmps16
      go_wp2_with fail
      refine HN.out.mono ?_
      rintro e w1 ⟨rfl, b1⟩
      have e1 := btrans b0 b1
      have x1 := x0.below b1 x0.lt
      obtain ⟨y0, -⟩ := x1.one
      clear HN b0 b1 g0 x0
      go_wp2_with fail
      go_ret2
      exact RetI.nil HNO.out e1
    · have d0 : decide (r < 0) = false := by simpa using hr
      obtain ⟨n, rfl⟩ : ∃ n : Nat, s = (n : Int) := ⟨s.toNat, by omega⟩
      obtain ⟨x, rfl⟩ : ∃ y : Nat, x = (y : Int) := ⟨x.toNat, by omega⟩
      have hn8 : n ≤ 8 := by omega
      have hxn : x < n := by omega
      have HOK : Hid (BallOk (n : Int) l (x : Int) r) := ⟨HNB.out, by omega⟩
      have HGD := Lib.hid hgd.1
      have HDL := Lib.hid (dist_len (J0 l) hxn)
      rw [Int.toNat_natCast, Int.toNat_natCast]
      have HB := Lib.hid (good64 HGD.out)
      clear hg hgd HNB hxx hr
      go_enter Try.func16, Try.ntmps16
      go_wp2_with fail
      refine HN.out.mono ?_
      rintro e w1 ⟨rfl, b1⟩
      have e1 := btrans b0 b1
      have g1 := g0.below b1 g0.lt
      have x1 := x0.below b1 x0.lt
      obtain ⟨y0, -⟩ := x1.one
      obtain ⟨p0, p1, -, -⟩ := g1.two
      clear HN b0 b1 g0 x0
      have HE1 := Lib.hid e1
      have HG1 := Lib.hid g1
      have HX1 := Lib.hid x1
      have HA := Lib.hid (show Edges w1 (.slice A l.length c) l from H.out.below e1)
      clear e1 g1 x1
      go_wp2_with fail
      go_cut [8] (fun a wx => CutB w wx a n A c l r (dist n (J0 l) x))
      case first =>
        have HSK := Lib.hid (fun (W : World) (hW : Below w1.heap.size w1 W) => (⟨(hW.cell (p := ⟨w.heap.size, 0, none⟩) HG1.out.lt).trans p0, (hW.cell (p := ⟨w.heap.size, 1, none⟩) HG1.out.lt).trans p1⟩ : W.cell? ⟨w.heap.size, 0, none⟩ = some (.int .i64 (n : Int)) ∧ W.cell? ⟨w.heap.size, 1, none⟩ = some (.slice A l.length c)))
        go_region_held3 (fun w' => w'.cell? ⟨w.heap.size, 0, none⟩ = some (.int .i64 (n : Int)) ∧ w'.cell? ⟨w.heap.size, 1, none⟩ = some (.slice A l.length c)) (first | go_keep | (refine HSK.out _ ?_; have hz_ := d3.size; have hz2_ := d2.size; have hb_ := d3; go_grown) | (refine HSK.out _ ?_; have hz_ := d2.size; have hb_ := d2; go_grown)) (first
          | (go_at_call 52; have D2 : Below w1.heap.size w1 w1.drew := (Below.refl _ _).drew; have E2 := HA.out.below D2; (with_reducible refine (neighborTest_any (n : Int) (.slice A l.length c) l w1.drew E2 hl HB.out).mono ?_); rintro e w2 ⟨cg, rfl, n2, b2⟩; have d2 : Below w1.heap.size w1 w2 := btrans D2 b2; have e_w2 := btrans HE1.out d2; have g2 := HG1.out.below d2 HG1.out.lt; have x2 := HX1.out.below d2 HX1.out.lt; obtain ⟨k0, k1, -, -⟩ := g2.two)
          | (go_at_call 52; have D2 : Below w1.heap.size w1 (w1.alloc (.cells #[.slice none 0 0] 26)).drew := ((Below.refl _ _).alloc (Nat.le_refl _) _).drew; have E2 := HA.out.below D2; (with_reducible refine (neighborTest_any (n : Int) (.slice A l.length c) l (w1.alloc (.cells #[.slice none 0 0] 26)).drew E2 hl HB.out).mono ?_); rintro e w2 ⟨cg, rfl, n2, b2⟩; have d2 : Below w1.heap.size w1 w2 := btrans D2 b2; have e_w2 := btrans HE1.out d2; have g2 := HG1.out.below d2 HG1.out.lt; have x2 := HX1.out.below d2 HX1.out.lt; obtain ⟨k0, k1, -, -⟩ := g2.two; have B0 : Blk (w1.alloc (.cells #[.slice none 0 0] 26)).drew w1.heap.size 26 #[.slice none 0 0] := Blk.new w1 26 #[.slice none 0 0]; have B6 := B0.below b2 B0.lt; have B6 : Blk _ (w1.heap.size) 26 #[.slice none 0 0] := B6; obtain ⟨Ba, Bb⟩ := B6.one; have Be := B6.lt)
          | (go_at_call 51; have D3 : Below w2.heap.size w2 w2 := (Below.refl _ _); (with_reducible refine (distF_any n x cg l w2 HGD.out n2 hxn).mono ?_); rintro e w3 ⟨A5, c5, rfl, o5, b3⟩; have d3 : Below w1.heap.size w1 w3 := btrans d2 b3; have e_w3 := btrans HE1.out d3; have g3 := HG1.out.below d3 HG1.out.lt; have x3 := HX1.out.below d3 HX1.out.lt; obtain ⟨k4, k5, -, -⟩ := g3.two; (try (have G6 := B6.below b3 B6.lt; obtain ⟨Ga, Gb⟩ := G6.one; have Ge := G6.lt)))
          | (go_at_call 51; have D3 : Below w2.heap.size w2 (w2.alloc (.cells #[.slice none 0 0] 26)) := ((Below.refl _ _).alloc (Nat.le_refl _) _); (with_reducible refine (distF_any n x cg l (w2.alloc (.cells #[.slice none 0 0] 26)) HGD.out (n2.below D3) hxn).mono ?_); rintro e w3 ⟨A5, c5, rfl, o5, b3⟩; have d3 : Below w1.heap.size w1 w3 := btrans d2 (btrans D3 b3); have e_w3 := btrans HE1.out d3; have g3 := HG1.out.below d3 HG1.out.lt; have x3 := HX1.out.below d3 HX1.out.lt; obtain ⟨k4, k5, -, -⟩ := g3.two; have C0 : Blk (w2.alloc (.cells #[.slice none 0 0] 26)) w2.heap.size 26 #[.slice none 0 0] := Blk.new w2 26 #[.slice none 0 0]; have G6 := C0.below b3 C0.lt; have G6 : Blk _ (w2.heap.size) 26 #[.slice none 0 0] := G6; obtain ⟨Ga, Gb⟩ := G6.one; have Ge := G6.lt))
        all_goals (go_wp2_with fail; go_meet)
        all_goals
          have y1 := HG1.out.lt; have y2 := HX1.out.lt; have y3 := d2.size
          first
            | exact CutB.new o5 g3 x3 e_w3
            | exact CutB.put G6 o5 g3 x3 e_w3 (by omega)
      case rest =>
        obtain ⟨p, A5, c5, rfl, bp, hI, bg, bx, eB⟩ := hcut
        obtain ⟨j0, j1, -, -⟩ := bg.two
        have F := Lib.hid (ballClo_fn n r p (w.heap.size + 1) _ (dist n (J0 l) x) _ (bp.cell 0) hI (bx.cell 0) HDL.out)
        have HE := Lib.hid eB
        clear bp hI bx eB
        go_wp2_with fail
        refine (nodesWhere_any n 54 _ _ _ hn8 F.out).mono ?_
        rintro e w4 ⟨A4, c4, rfl, o4, b4⟩
        go_wp2_with fail
        go_ret2
        exact RetI.yes (l := ballL n l x r) HOK.out (own_base o4 HE.out.size) (btrans HE.out b4)
  · have hg' : nodesB s l [x] = false := by simpa using hg
    rw [hg'] at HN
    have HNO : Hid (¬ BallOk s l x r) := fun hh => hg hh.1
    clear hg hg'
    go_enter Try.func16, Try.ntmps16
    go_wp2_with fail
    refine HN.out.mono ?_
    rintro e w1 ⟨rfl, b1⟩
    go_wp2_with fail
    go_ret2
    exact RetI.nil HNO.out (btrans b0 b1)
end Go.Proofs.Ytcnfeijniidclaa.ballo
