/- The contract of the model's l8Round. -/
import Derived.Handy
import Derived.Test.YtbbgbepemnmfdaaFirN
import Derived.Deep.RegionHeldLaw
namespace Go.Proofs.Ytbbgbepemnmfdaa.fires
open Go.RowKit P2 words edges ints good adjs fns sets rets covs balls bitsI bags ups gridr
set_option linter.unusedVariables false

abbrev RowI2 (w : World) (B : Nat) (v : Value) (L : List Int) : Prop := w.ownsRow B 3 1 v L.length (cellsI L)
theorem own_ne2 {w : World} {B O m : Nat} {t t2 : TypeId} {v : Value} {xs : List Value} {cs : Array Value} (h : w.ownsRow B t 1 v m xs) (hO : Blk w O t2 cs) (hne : t ≠ t2) : v.ownBlock ≠ some O := by
  rcases h.2 with ⟨rfl, _⟩ | ⟨g, cap, cur, rfl, _, hg, _⟩
  · simp [Value.ownBlock]
  · intro e
    simp [Value.ownBlock] at e
    subst e
    unfold Blk at hO
    rw [hg] at hO
    cases hO
    exact hne rfl
/-- a store into another block leaves a row -/
theorem RowI2.stored {w : World} {B O : Nat} {v : Value} {L : List Int} {cs : Array Value} (h : RowI2 w B v L) (hO : Blk w O 89 cs) (j : Nat) (u : Value) : RowI2 (w.setCell ⟨O, j, none⟩ u) B v L :=
  World.ownsRow.kept h (gset (World.grownBy.refl w (some O)) j u) (.inr (own_ne2 h hO (by decide)))
theorem putB {n d x : Nat} {L : List Int} (h : PutI (nw (bitB d) n) (x : Int) L) (hx : x < n) : L = nw (bitB (d ||| 2 ^ x)) n :=
  asc_ext h.1 (nw_asc _ _) fun e => by
    rw [h.2.1 e, mem_nw, mem_nw]
    constructor
    · rintro (rfl | ⟨j, hj, hp, rfl⟩)
      · exact ⟨x, hx, by unfold bitB; rw [put_bit]; simp, rfl⟩
      · exact ⟨j, hj, by unfold bitB at hp ⊢; rw [put_bit, hp]; rfl, rfl⟩
    · rintro ⟨j, hj, hp, rfl⟩
      unfold bitB at hp
      rw [put_bit, Bool.or_eq_true, decide_eq_true_iff] at hp
      rcases hp with hp | rfl
      · exact .inr ⟨j, hj, hp, rfl⟩
      · exact .inl rfl
theorem code_nw {n b : Nat} (hb : b < 2 ^ n) : codeL (nw (bitB b) n) = b := by
  apply Nat.eq_of_testBit_eq
  intro j
  rw [code_bit (fun y hy => by obtain ⟨z, _, _, rfl⟩ := mem_nw.1 hy; omega)]
  exact mem_bits hb
/-- what a fire is behind a drawn line -/
def CutR (w wx : World) (a : Value) (n : Nat) (A : Option Addr) (c : Nat) (l : List Ed) (LB LD : List Int) : Prop :=
  ∃ P A5 c5 A6 c6, a = .pointer (some ⟨P, 0, none⟩) ∧ Blk wx P 89 #[.slice A5 LB.length c5, .slice A6 LD.length c6] ∧ RowI2 wx w.heap.size (.slice A5 LB.length c5) LB ∧ RowI2 wx w.heap.size (.slice A6 LD.length c6) LD ∧
    Blk wx w.heap.size 29 #[.int .i64 (n : Int), .slice A l.length c] ∧ Blk wx (w.heap.size + 2) 89 #[.slice none 0 0, .slice none 0 0] ∧ w.heap.size + 2 < P ∧ Below w.heap.size w wx
theorem CutR.put {w w4 : World} {P n c c5 c6 B5 B6 : Nat} {A A5 A6 : Option Addr} {l : List Ed} {LB LD : List Int} (hb : Blk w4 P 89 #[.slice none 0 0, .slice none 0 0]) (h5 : RowI2 w4 B5 (.slice A5 LB.length c5) LB) (h6 : RowI2 w4 B6 (.slice A6 LD.length c6) LD) (e5 : w.heap.size ≤ B5) (e6 : w.heap.size ≤ B6)
    (hg : Blk w4 w.heap.size 29 #[.int .i64 (n : Int), .slice A l.length c]) (hx : Blk w4 (w.heap.size + 2) 89 #[.slice none 0 0, .slice none 0 0]) (hB : Below w.heap.size w w4) (hp : w.heap.size + 2 < P) :
    CutR w ((w4.setCell ⟨P, 0, none⟩ (.slice A5 LB.length c5)).setCell ⟨P, 1, none⟩ (.slice A6 LD.length c6)) (.pointer (some ⟨P, 0, none⟩)) n A c l LB LD := by
  have b1 : Blk (w4.setCell ⟨P, 0, none⟩ (.slice A5 LB.length c5)) P 89 #[.slice A5 LB.length c5, .slice none 0 0] := by
    have h_ := hb.set_ 0 (.slice A5 LB.length c5)
    simpa using h_
  have b2 : Blk ((w4.setCell ⟨P, 0, none⟩ (.slice A5 LB.length c5)).setCell ⟨P, 1, none⟩ (.slice A6 LD.length c6)) P 89 #[.slice A5 LB.length c5, .slice A6 LD.length c6] := by
    have h_ := b1.set_ 1 (.slice A6 LD.length c6)
    simpa using h_
  exact ⟨P, A5, c5, A6, c6, rfl, b2, RowI2.stored (RowI2.stored (own_base h5 e5) hb 0 _) b1 1 _, RowI2.stored (RowI2.stored (own_base h6 e6) hb 0 _) b1 1 _,
    (hg.far (by show w.heap.size ≠ P; omega) _).far (by show w.heap.size ≠ P; omega) _, (hx.far (by show w.heap.size + 2 ≠ P; omega) _).far (by show w.heap.size + 2 ≠ P; omega) _, hp, (hB.setCell (by show w.heap.size ≤ P; omega) _).setCell (by show w.heap.size ≤ P; omega) _⟩
theorem CutR.new {w w4 : World} {n c c5 c6 B5 B6 : Nat} {A A5 A6 : Option Addr} {l : List Ed} {LB LD : List Int} (h5 : RowI2 w4 B5 (.slice A5 LB.length c5) LB) (h6 : RowI2 w4 B6 (.slice A6 LD.length c6) LD) (e5 : w.heap.size ≤ B5) (e6 : w.heap.size ≤ B6)
    (hg : Blk w4 w.heap.size 29 #[.int .i64 (n : Int), .slice A l.length c]) (hx : Blk w4 (w.heap.size + 2) 89 #[.slice none 0 0, .slice none 0 0]) (hB : Below w.heap.size w w4) :
    CutR w (w4.alloc (.cells #[.slice A5 LB.length c5, .slice A6 LD.length c6] 89)) (.pointer (some ⟨w4.heap.size, 0, none⟩)) n A c l LB LD :=
  ⟨w4.heap.size, A5, c5, A6, c6, rfl, Blk.new _ _ _, World.ownsRow.alloc (own_base h5 e5) _, World.ownsRow.alloc (own_base h6 e6) _, hg.alloc _, hx.alloc _, hx.lt, hB.alloc hB.size _⟩
/-- a set and the first k numbers of a list, as a list -/
def stepL (n d : Nat) (xs : List Int) (k : Nat) : List Int := nw (bitB (d ||| codeL (xs.take k))) n
theorem stepL_zero (n d : Nat) (xs : List Int) : stepL n d xs 0 = nw (bitB d) n := by unfold stepL; rw [List.take_zero, show codeL [] = 0 from rfl, Nat.or_zero]
theorem stepL_all (n d : Nat) (xs : List Int) : stepL n d xs xs.length = nw (bitB (d ||| codeL xs)) n := by unfold stepL; rw [List.take_length]
theorem stepL_put {n d k z : Nat} {xs L : List Int} (hy : xs[k]? = some (z : Int)) (hz : z < n) (h : PutI (stepL n d xs k) (z : Int) L) : L = stepL n d xs (k + 1) := by
  have := putB h hz
  rw [this]
  unfold stepL
  rw [code_succ hy, Int.toNat_natCast, Nat.or_assoc]
theorem stepL_len (n d : Nat) (xs : List Int) (k : Nat) : (stepL n d xs k).length ≤ n := nw_len _ _
theorem stepL_asc (n d : Nat) (xs : List Int) (k : Nat) : Asc (stepL n d xs k) := nw_asc _ _
set_option maxHeartbeats 4000000 in
set_option maxRecDepth 100000 in
theorem l8Round_any (n : Nat) (f : Fr) (v Bv Dv u : Value) (l : List Ed) (xs : List Int) (w : World) (h : Edges w v l) (hl : l.length ≤ 1048576) (hf : FrOk n f) (hn : n ≤ 8) (hb : Ints w Bv (nw (bitB f.1) n)) (hd : Ints w Dv (nw (bitB f.2) n)) (hu : Ints w u xs) (hxl : xs.length ≤ 1048576) (hx : ∀ y ∈ xs, 0 ≤ y ∧ y < (n : Int)) :
    Calls Try.prog 114 #[.agg #[.int .i64 (n : Int), v], .agg #[Bv, Dv], u] w fun e w' => ∃ A1 c1 A3 c3, e = .returned (.agg #[.slice A1 (nw (bitB (aftF l n f (codeL xs)).1) n).length c1, .slice A3 (nw (bitB (aftF l n f (codeL xs)).2) n).length c3]) ∧ RowI2 w' w.heap.size (.slice A1 (nw (bitB (aftF l n f (codeL xs)).1) n).length c1) (nw (bitB (aftF l n f (codeL xs)).1) n) ∧ RowI2 w' w.heap.size (.slice A3 (nw (bitB (aftF l n f (codeL xs)).2) n).length c3) (nw (bitB (aftF l n f (codeL xs)).2) n) ∧ Below w.heap.size w w' := by
  obtain ⟨b, d⟩ := f
  have hb2 : b < 2 ^ n := hf.1
  have hd2 : d < 2 ^ n := hf.2
  change Ints w Bv (nw (bitB b) n) at hb
  change Ints w Dv (nw (bitB d) n) at hd
  obtain ⟨A, c, rfl, -⟩ := h.form
  obtain ⟨A1, c1, rfl, -⟩ := hb.form
  obtain ⟨A3, c3, rfl, -⟩ := hd.form
  obtain ⟨A2, c2, rfl, hc2⟩ := hu.form
  have H := Lib.hid h
  have HC2 := Lib.hid hc2
  have HX := Lib.hid hx
  have hnl1 := nw_len (bitB b) n
  have hnl2 := nw_len (bitB d) n
  have HS2 := Lib.hid (code_lt (m := n) hx)
  go_enter Try.func114, Try.ntmps114
  go_wp2_with fail
  have g1 := ((Blk.new w 29 #[.int .i64 (n : Int), .slice A l.length c]).alloc (.cells #[.slice A1 (nw (bitB b) n).length c1, .slice A3 (nw (bitB d) n).length c3] 89)).alloc (.cells #[.slice none 0 0, .slice none 0 0] 89)
  have g2 := (Blk.new (w.alloc (.cells #[.int .i64 (n : Int), .slice A l.length c] 29)) 89 #[.slice A1 (nw (bitB b) n).length c1, .slice A3 (nw (bitB d) n).length c3]).alloc (.cells #[.slice none 0 0, .slice none 0 0] 89)
  rw [World.size_alloc] at g2
  have g3 := Blk.new ((w.alloc (.cells #[.int .i64 (n : Int), .slice A l.length c] 29)).alloc (.cells #[.slice A1 (nw (bitB b) n).length c1, .slice A3 (nw (bitB d) n).length c3] 89)) 89 #[.slice none 0 0, .slice none 0 0]
  rw [World.size_alloc, World.size_alloc] at g3
  have bx : Below w.heap.size w (((w.alloc (.cells #[.int .i64 (n : Int), .slice A l.length c] 29)).alloc (.cells #[.slice A1 (nw (bitB b) n).length c1, .slice A3 (nw (bitB d) n).length c3] 89)).alloc (.cells #[.slice none 0 0, .slice none 0 0] 89)) := (((Below.refl _ _).alloc (Nat.le_refl _) _).alloc (by simp) _).alloc (by rw [World.size_alloc, World.size_alloc]; exact Nat.le_trans (Nat.le_add_right _ _) (Nat.le_add_right _ _)) _
  obtain ⟨wx, hwx⟩ : ∃ wx, wx = ((w.alloc (.cells #[.int .i64 (n : Int), .slice A l.length c] 29)).alloc (.cells #[.slice A1 (nw (bitB b) n).length c1, .slice A3 (nw (bitB d) n).length c3] 89)).alloc (.cells #[.slice none 0 0, .slice none 0 0] 89) := ⟨_, rfl⟩
  rw [← hwx] at g1 g2 g3 bx ⊢
  have HSZ : Hid (w.heap.size + 2 < wx.heap.size) := g3.lt
  have HG1 := Lib.hid g1
  have HG2 := Lib.hid g2
  have HG3 := Lib.hid g3
  have HBX := Lib.hid bx
  have HOB := Lib.hid (fun (W : World) (hW : Below wx.heap.size wx W) => times.l1Own_any (.slice A1 (nw (bitB b) n).length c1) _ W (hb.below (btrans bx hW)) (by omega))
  have HOD := Lib.hid (fun (W : World) (hW : Below wx.heap.size wx W) => times.l1Own_any (.slice A3 (nw (bitB d) n).length c3) _ W (hd.below (btrans bx hW)) (by omega))
  obtain ⟨p2, p3, -, -⟩ := g2.two
  have HSK := Lib.hid (fun (W : World) (hW : Below wx.heap.size wx W) => (⟨(hW.cell (p := ⟨w.heap.size + 1, 0, none⟩) HG2.out.lt).trans p2, (hW.cell (p := ⟨w.heap.size + 1, 1, none⟩) HG2.out.lt).trans p3⟩ : W.cell? ⟨w.heap.size + 1, 0, none⟩ = some (.slice A1 (nw (bitB b) n).length c1) ∧ W.cell? ⟨w.heap.size + 1, 1, none⟩ = some (.slice A3 (nw (bitB d) n).length c3)))
  clear g1 g2 g3 bx hwx hb hd hu hc2 hx hf h
  generalize hLB : nw (bitB b) n = LB at *
  generalize hLD : nw (bitB d) n = LD at *
  have HLB := Lib.hid hLB
  have HLD := Lib.hid hLD
  clear hLB hLD
  go_cut [7] (fun a wy => CutR w wy a n A c l LB LD)
  case first =>
    go_region_held3 (fun w' => w'.cell? ⟨w.heap.size + 1, 0, none⟩ = some (.slice A1 LB.length c1) ∧ w'.cell? ⟨w.heap.size + 1, 1, none⟩ = some (.slice A3 LD.length c3)) (first | go_keep | (refine HSK.out _ ?_; have hz_ := d4.size; have hz2_ := d3.size; have hb_ := d4; go_grown) | (refine HSK.out _ ?_; have hz_ := d3.size; have hb_ := d3; go_grown)) (first
      | (go_at_call 78; have D3 : Below wx.heap.size wx wx.drew := (Below.refl _ _).drew; (with_reducible refine (HOB.out wx.drew D3).mono ?_); rintro e w3 ⟨A5, c5, rfl, o5, b3⟩; have d3 : Below wx.heap.size wx w3 := btrans D3 b3; have z3 := D3.size; have s3 := b3.size)
      | (go_at_call 78; have D3 : Below wx.heap.size wx (wx.alloc (.cells #[.slice none 0 0, .slice none 0 0] 89)).drew := ((Below.refl _ _).alloc (Nat.le_refl _) _).drew; (with_reducible refine (HOB.out (wx.alloc (.cells #[.slice none 0 0, .slice none 0 0] 89)).drew D3).mono ?_); rintro e w3 ⟨A5, c5, rfl, o5, b3⟩; have d3 : Below wx.heap.size wx w3 := btrans D3 b3; have z3 := D3.size; have s3 := b3.size; have B0 : Blk (wx.alloc (.cells #[.slice none 0 0, .slice none 0 0] 89)).drew wx.heap.size 89 #[.slice none 0 0, .slice none 0 0] := Blk.new wx 89 #[.slice none 0 0, .slice none 0 0]; have B6 := B0.below b3 B0.lt; have B6 : Blk _ (wx.heap.size) 89 #[.slice none 0 0, .slice none 0 0] := B6; obtain ⟨Ba, Bb, Bc, Bd⟩ := B6.two; have Be := B6.lt)
      | (go_at_call 78; have D4 : Below w3.heap.size w3 w3 := (Below.refl _ _); (with_reducible refine (HOD.out w3 (btrans d3 D4)).mono ?_); rintro e w4 ⟨A6, c6, rfl, o6, b4⟩; have d4 : Below wx.heap.size wx w4 := btrans d3 (btrans D4 b4); have q5 := own_below o5 (btrans D4 b4); have z4 := D4.size; have s4 := b4.size; have g4 := HG1.out.below d4 HG1.out.lt; have x4 := HG3.out.below d4 HG3.out.lt; have f4 := HG2.out.below d4 HG2.out.lt; obtain ⟨k4, k5, -, -⟩ := f4.two; have e4 := btrans HBX.out d4; (try (have G6 := B6.below b4 B6.lt; obtain ⟨Ga, Gb, Gc, Gd⟩ := G6.two; have Ge := G6.lt)))
      | (go_at_call 78; have D4 : Below w3.heap.size w3 (w3.alloc (.cells #[.slice none 0 0, .slice none 0 0] 89)) := ((Below.refl _ _).alloc (Nat.le_refl _) _); (with_reducible refine (HOD.out (w3.alloc (.cells #[.slice none 0 0, .slice none 0 0] 89)) (btrans d3 D4)).mono ?_); rintro e w4 ⟨A6, c6, rfl, o6, b4⟩; have d4 : Below wx.heap.size wx w4 := btrans d3 (btrans D4 b4); have q5 := own_below o5 (btrans D4 b4); have z4 := D4.size; have s4 := b4.size; have g4 := HG1.out.below d4 HG1.out.lt; have x4 := HG3.out.below d4 HG3.out.lt; have f4 := HG2.out.below d4 HG2.out.lt; obtain ⟨k4, k5, -, -⟩ := f4.two; have e4 := btrans HBX.out d4; have C0 : Blk (w3.alloc (.cells #[.slice none 0 0, .slice none 0 0] 89)) w3.heap.size 89 #[.slice none 0 0, .slice none 0 0] := Blk.new w3 89 #[.slice none 0 0, .slice none 0 0]; have G6 := C0.below b4 C0.lt; have G6 : Blk _ (w3.heap.size) 89 #[.slice none 0 0, .slice none 0 0] := G6; obtain ⟨Ga, Gb, Gc, Gd⟩ := G6.two; have Ge := G6.lt))
    all_goals (go_wp2_with fail; go_meet)
    all_goals
      have y1 := HSZ.out; have y2 := HBX.out.size; have y3 := d3.size
      first
        | exact CutR.new q5 o6 (by omega) (by omega) g4 x4 e4
        | exact CutR.put G6 q5 o6 (by omega) (by omega) g4 x4 e4 (by omega)
  case rest =>
    obtain ⟨P, A5, c5, A6, c6, rfl, bp, r5, r6, bg, bo, hP, eB⟩ := hcut
    have HC := Lib.hid hP
    have HRD : Hid (stepL n d xs xs.length = nw (bitB (aftF l n (b, d) (codeL xs)).2) n) := stepL_all n d xs
    have HTH : Hid (codeL (nw (bitB (thrN l n b (d ||| codeL xs))) n) = thrN l n b (d ||| codeL xs)) := code_nw (num_lt2 _ _)
    have HRB : Hid (stepL n b (nw (bitB (thrN l n b (d ||| codeL xs))) n) (nw (bitB (thrN l n b (d ||| codeL xs))) n).length = nw (bitB (aftF l n (b, d) (codeL xs)).1) n) := by
      show _ = _
      rw [stepL_all, HTH.out]
      rfl
    have HNK := Lib.hid (fun k (y : Int) (hy : (nw (bitB (thrN l n b (d ||| codeL xs))) n)[k]? = some y) => (by
      obtain ⟨z, hz, -, rfl⟩ := mem_nw.1 (List.mem_of_getElem? hy)
      exact ⟨z, rfl, hz⟩ : ∃ z : Nat, y = (z : Int) ∧ z < n))
    have HFO2 : Hid (FrOk n (b, d ||| codeL xs)) := ⟨hb2, or_lt2 hd2 HS2.out⟩
    have HNE := Lib.hid (fun (W : World) (Bv Dv : Value) (hW : Below w.heap.size w W) (h1 : Ints W Bv (nw (bitB b) n)) (h2 : Ints W Dv (nw (bitB (d ||| codeL xs)) n)) => l8Next_any n (b, d ||| codeL xs) (.slice A l.length c) Bv Dv l W (H.out.below hW) hl HFO2.out hn h1 h2)
    have HNL := nw_len (bitB (thrN l n b (d ||| codeL xs))) n
    have HDA : Hid (nw (bitB (d ||| codeL xs)) n = nw (bitB (aftF l n (b, d) (codeL xs)).2) n) := rfl
    change (∀ (W : World) (Bv Dv : Value) (hW : Below w.heap.size w W) (h1 : Ints W Bv (nw (bitB b) n)) (h2 : Ints W Dv (nw (bitB (d ||| codeL xs)) n)), Calls _ _ _ W (RowI W (nw (bitB (thrN l n b (d ||| codeL xs))) n))) at HNE
    rw [HLB.out] at HNE
    simp only [HDA.out] at HNE
    have HL0 : Hid (stepL n d xs 0 = LD) := (stepL_zero n d xs).trans HLD.out
    have HB0 : Hid (stepL n b (nw (bitB (thrN l n b (d ||| codeL xs))) n) 0 = LB) := (stepL_zero n b _).trans HLB.out
    clear HTH HFO2 HDA HLB HLD HS2 hb2 hd2
    generalize hRBe : nw (bitB (aftF l n (b, d) (codeL xs)).1) n = RB at *
    generalize hRDe : nw (bitB (aftF l n (b, d) (codeL xs)).2) n = RD at *
    have HEB := Lib.hid hRBe
    have HED := Lib.hid hRDe
    clear hRBe hRDe
    generalize nw (bitB (thrN l n b (d ||| codeL xs))) n = NX at *
    have HBP : Hid (Blk wc P 89 #[.slice A5 LB.length c5, .slice A6 (stepL n d xs 0).length c6]) := by
      show Blk _ _ _ _
      rw [HL0.out]; exact bp
    have HR5 := Lib.hid r5
    have HR6 := Lib.hid r6
    have HG := Lib.hid bg
    have HO := Lib.hid bo
    have HE := Lib.hid eB
    clear bp r5 r6 bg bo eB
    go_wp2_with fail
    go_loopg [8] xs.length (fun g iv wr => ∃ (k : Nat) (A6 : Option Addr) (c6 : Nat), k + g = xs.length ∧ iv = .int .i64 (k : Int) ∧ Blk wr P 89 #[.slice A5 LB.length c5, .slice A6 (stepL n d xs k).length c6] ∧ RowI2 wr w.heap.size (.slice A5 LB.length c5) LB ∧ RowI2 wr w.heap.size (.slice A6 (stepL n d xs k).length c6) (stepL n d xs k) ∧ Blk wr w.heap.size 29 #[.int .i64 (n : Int), .slice A l.length c] ∧ Blk wr (w.heap.size + 2) 89 #[.slice none 0 0, .slice none 0 0] ∧ Below w.heap.size w wr)
    case atStart => exact ⟨0, A6, c6, by omega, rfl, HBP.out, HR5.out, by rw [HL0.out]; exact HR6.out, HG.out, HO.out, HE.out⟩
    case round =>
      clear HBP HR5 HR6 HG HO HE
      obtain ⟨k, A6, c6, hkg, rfl, bp, r5, r6, bg, bo, eB⟩ := hrel
      have HBP := Lib.hid bp
      have HR5 := Lib.hid r5
      have HR6 := Lib.hid r6
      have HG := Lib.hid bg
      have HO := Lib.hid bo
      have HE := Lib.hid eB
      obtain ⟨p0, p1, -, -⟩ := bg.two
      obtain ⟨m0, m1, y0, y1⟩ := bp.two
      cases gk with
      | zero =>
        obtain rfl : k = xs.length := by omega
        rw [HRD.out] at m1 HBP HR6 r6
        have HN := Lib.hid (HNE wr (.slice A5 LB.length c5) (.slice A6 RD.length c6) eB (Reads.of_own r5) (Reads.of_own r6))
        clear bp r5 r6 bg bo eB HNE
        go_wp2_with fail
        refine HN.out.mono ?_
        rintro e w2 ⟨A9, c9, rfl, o9, b9⟩
        have HBP2 : Hid (Blk w2 P 89 #[.slice A5 (stepL n b NX 0).length c5, .slice A6 RD.length c6]) := by
          show Blk _ _ _ _
          rw [HB0.out]; exact HBP.out.below b9 HBP.out.lt
        have HR52 : Hid (RowI2 w2 w.heap.size (.slice A5 (stepL n b NX 0).length c5) (stepL n b NX 0)) := by
          show RowI2 _ _ _ _
          rw [HB0.out]; exact own_below HR5.out b9
        have HR62 : Hid (RowI2 w2 w.heap.size (.slice A6 RD.length c6) RD) := own_below HR6.out b9
        have HG2 := Lib.hid (HG.out.below b9 HG.out.lt)
        have HO2 := Lib.hid (HO.out.below b9 HO.out.lt)
        have HE2 := Lib.hid (btrans HE.out b9)
        have HN2 : Hid (RowI2 w2 w.heap.size (.slice A9 NX.length c9) NX) := own_base o9 HE.out.size
        clear o9 b9 p0 p1 m0 m1 y0 y1 HBP HR5 HR6 HG HO HE HN
        go_wp2_with fail
        go_loopg [10] NX.length (fun g iv wr => ∃ (k : Nat) (A5 : Option Addr) (c5 : Nat), k + g = NX.length ∧ iv = .int .i64 (k : Int) ∧ Blk wr P 89 #[.slice A5 (stepL n b NX k).length c5, .slice A6 RD.length c6] ∧ RowI2 wr w.heap.size (.slice A5 (stepL n b NX k).length c5) (stepL n b NX k) ∧ RowI2 wr w.heap.size (.slice A6 RD.length c6) RD ∧ RowI2 wr w.heap.size (.slice A9 NX.length c9) NX ∧ Blk wr (w.heap.size + 2) 89 #[.slice none 0 0, .slice none 0 0] ∧ Below w.heap.size w wr)
        case atStart => exact ⟨0, A5, c5, by omega, rfl, HBP2.out, HR52.out, HR62.out, HN2.out, HO2.out, HE2.out⟩
        case round =>
          clear HBP2 HR52 HR62 HG2 HO2 HE2 HN2
          obtain ⟨k, A5, c5, hkg, rfl, bp, r5, r6, rn, bo, eB⟩ := hrel
          have HBP := Lib.hid bp
          have HR5 := Lib.hid r5
          have HR6 := Lib.hid r6
          have HRN := Lib.hid rn
          have HO := Lib.hid bo
          have HE := Lib.hid eB
          obtain ⟨m0, m1, y0, y1⟩ := bp.two
          cases gk with
          | zero =>
            obtain rfl : k = NX.length := by omega
            rw [HRB.out] at m0 HBP HR5
            have HO3 : Hid (Blk wr (w.heap.size + 1 + 1) 89 #[.slice none 0 0, .slice none 0 0]) := bo
            obtain ⟨x0, x1, z0, z1⟩ := (show Blk wr (w.heap.size + 1 + 1) 89 #[.slice none 0 0, .slice none 0 0] from bo).two
            have hb1 : Blk (wr.setCell ⟨w.heap.size + 1 + 1, 0, none⟩ (.slice A5 RB.length c5)) (w.heap.size + 1 + 1) 89 #[.slice A5 RB.length c5, .slice none 0 0] := by
              have h_ := HO3.out.set_ 0 (.slice A5 RB.length c5)
              simpa using h_
            have hb2 : Blk ((wr.setCell ⟨w.heap.size + 1 + 1, 0, none⟩ (.slice A5 RB.length c5)).setCell ⟨w.heap.size + 1 + 1, 1, none⟩ (.slice A6 RD.length c6)) (w.heap.size + 1 + 1) 89 #[.slice A5 RB.length c5, .slice A6 RD.length c6] := by
              have h_ := hb1.set_ 1 (.slice A6 RD.length c6)
              simpa using h_
            have HB1 := Lib.hid hb1
            have HB2 := Lib.hid hb2
            have HSB : Hid (Below w.heap.size w ((wr.setCell ⟨w.heap.size + 1 + 1, 0, none⟩ (.slice A5 RB.length c5)).setCell ⟨w.heap.size + 1 + 1, 1, none⟩ (.slice A6 RD.length c6))) := (HE.out.setCell (by show w.heap.size ≤ w.heap.size + 1 + 1; exact Nat.le_trans (Nat.le_add_right _ _) (Nat.le_add_right _ _)) _).setCell (by show w.heap.size ≤ w.heap.size + 1 + 1; exact Nat.le_trans (Nat.le_add_right _ _) (Nat.le_add_right _ _)) _
            have HS5 := Lib.hid (RowI2.stored (RowI2.stored HR5.out HO3.out 0 (.slice A5 RB.length c5)) hb1 1 (.slice A6 RD.length c6))
            have HS6 := Lib.hid (RowI2.stored (RowI2.stored HR6.out HO3.out 0 (.slice A5 RB.length c5)) hb1 1 (.slice A6 RD.length c6))
            clear bp r5 r6 rn bo eB hb1 hb2
            go_wp2_with fail
            obtain ⟨q0, q1, -, -⟩ := HB2.out.two
            refine bodyPost_ret (v := .agg #[.slice A5 RB.length c5, .slice A6 RD.length c6]) (by simp [results, Try.results114, go_sem, q0, q1]) rfl (by rw [HEB.out, HED.out]; exact ⟨A5, c5, A6, c6, rfl, HS5.out, HS6.out, HSB.out⟩)
          | succ g2 =>
            have hlt : k < NX.length := by omega
            have hlt' : (k : Int) < (NX.length : Int) := by omega
            obtain ⟨y', hy⟩ : ∃ y, NX[k]? = some y := ⟨_, List.getElem?_eq_getElem hlt⟩
            obtain ⟨z, rfl, hzn⟩ := HNK.out k y' hy
            obtain ⟨_, _, hf9, hcc⟩ := (show Ints wr (.slice A9 NX.length c9) NX from Reads.of_own rn).form
            cases hf9
            obtain ⟨g9, o9, rfl, q9⟩ := hcc k _ hy
            have hsl := stepL_len n b NX k
            have HPT := Lib.hid (l1Put_own (.slice A5 (stepL n b NX k).length c5) (stepL n b NX k) (z : Int) wr.drew w.heap.size (own_below r5 (Below.refl _ _).drew) eB.drew.size (by omega) (stepL_asc _ _ _ _))
            have HPE := Lib.hid (fun L (h : PutI (stepL n b NX k) (z : Int) L) => stepL_put hy hzn h)
            clear bp r5 r6 rn bo eB hcc hy
            go_wp2_with fail
            go_region_with (go_at_call 106; (with_reducible refine HPT.out.mono ?_); rintro e w5 ⟨L, A8, c8, rfl, hpi, o8, b8⟩; have d8 : Below wr.heap.size wr w5 := btrans (Below.refl _ _).drew b8; obtain ⟨j0, j1, z0, z1⟩ := (HBP.out.below d8 HBP.out.lt).two)
            all_goals
              have HLE := Lib.hid (HPE.out L hpi)
              have b5_ := HBP.out.below d8 HBP.out.lt
              have hb1 : Blk (w5.setCell ⟨P, 0, none⟩ (.slice A8 L.length c8)) P 89 #[.slice A8 L.length c8, .slice A6 RD.length c6] := by
                have h_ := b5_.set_ 0 (.slice A8 L.length c8)
                simpa using h_
              have HBP2 := Lib.hid hb1
              have HR52 := Lib.hid (RowI2.stored (show RowI2 w5 w.heap.size (.slice A8 L.length c8) L from o8) b5_ 0 (.slice A8 L.length c8))
              have HR62 := Lib.hid (RowI2.stored (show RowI2 w5 w.heap.size (.slice A6 RD.length c6) RD from own_below HR6.out d8) b5_ 0 (.slice A8 L.length c8))
              have HRN2 := Lib.hid (RowI2.stored (show RowI2 w5 w.heap.size (.slice (some ⟨g9, o9, none⟩) NX.length c9) NX from own_below HRN.out d8) b5_ 0 (.slice A8 L.length c8))
              have HO2 := Lib.hid ((HO.out.below d8 HO.out.lt).far (p := ⟨P, 0, none⟩) (by have := HC.out; show w.heap.size + 2 ≠ P; omega) (.slice A8 L.length c8))
              have HE2 := Lib.hid ((btrans HE.out d8).setCell (p := ⟨P, 0, none⟩) (by have := HC.out; show w.heap.size ≤ P; omega) (.slice A8 L.length c8))
              clear hpi o8 b8 d8 b5_ hb1 j0 j1 z0 z1 m0 m1 y0 y1 q9
              generalize w5.setCell ⟨P, 0, none⟩ (.slice A8 L.length c8) = w6 at *
              go_wp2_with fail
              go_roundg g2
              case measure => omega
              case rel => exact ⟨k + 1, A8, c8, by omega, by go_num, by rw [← HLE.out]; exact HBP2.out, by rw [← HLE.out]; exact HR52.out, HR62.out, HRN2.out, HO2.out, HE2.out⟩
      | succ g2 =>
        have hlt : k < xs.length := by omega
        have hlt' : (k : Int) < (xs.length : Int) := by omega
        obtain ⟨y', hy⟩ : ∃ y, xs[k]? = some y := ⟨_, List.getElem?_eq_getElem hlt⟩
        have hyr := HX.out y' (List.mem_of_getElem? hy)
        obtain ⟨z, rfl⟩ : ∃ y : Nat, y' = (y : Int) := ⟨y'.toNat, by omega⟩
        have hzn : z < n := by omega
        obtain ⟨g5, o5, rfl, c5_⟩ := HC2.out k _ hy
        have q5 := nearv.cell_keep c5_ eB
        have hsl := stepL_len n d xs k
        have HPT := Lib.hid (l1Put_own (.slice A6 (stepL n d xs k).length c6) (stepL n d xs k) (z : Int) wr.drew w.heap.size (own_below r6 (Below.refl _ _).drew) eB.drew.size (by omega) (stepL_asc _ _ _ _))
        have HPE := Lib.hid (fun L (h : PutI (stepL n d xs k) (z : Int) L) => stepL_put hy hzn h)
        clear bp r5 r6 bg bo eB hy c5_ HNE hyr
        go_wp2_with fail
        go_region_with (go_at_call 106; (with_reducible refine HPT.out.mono ?_); rintro e w5 ⟨L, A8, c8, rfl, hpi, o8, b8⟩; have d8 : Below wr.heap.size wr w5 := btrans (Below.refl _ _).drew b8; obtain ⟨j0, j1, z0, z1⟩ := (HBP.out.below d8 HBP.out.lt).two)
        all_goals
          have HLE := Lib.hid (HPE.out L hpi)
          have b5_ := HBP.out.below d8 HBP.out.lt
          have hb1 : Blk (w5.setCell ⟨P, 1, none⟩ (.slice A8 L.length c8)) P 89 #[.slice A5 LB.length c5, .slice A8 L.length c8] := by
            have h_ := b5_.set_ 1 (.slice A8 L.length c8)
            simpa using h_
          have HBP2 := Lib.hid hb1
          have HR62 := Lib.hid (RowI2.stored (show RowI2 w5 w.heap.size (.slice A8 L.length c8) L from o8) b5_ 1 (.slice A8 L.length c8))
          have HR52 := Lib.hid (RowI2.stored (show RowI2 w5 w.heap.size (.slice A5 LB.length c5) LB from own_below HR5.out d8) b5_ 1 (.slice A8 L.length c8))
          have HG2 := Lib.hid ((HG.out.below d8 HG.out.lt).far (p := ⟨P, 1, none⟩) (by have := HC.out; show w.heap.size ≠ P; omega) (.slice A8 L.length c8))
          have HO2 := Lib.hid ((HO.out.below d8 HO.out.lt).far (p := ⟨P, 1, none⟩) (by have := HC.out; show w.heap.size + 2 ≠ P; omega) (.slice A8 L.length c8))
          have HE2 := Lib.hid ((btrans HE.out d8).setCell (p := ⟨P, 1, none⟩) (by have := HC.out; show w.heap.size ≤ P; omega) (.slice A8 L.length c8))
          clear hpi o8 b8 d8 b5_ hb1 j0 j1 z0 z1 m0 m1 y0 y1 q5 p0 p1
          generalize w5.setCell ⟨P, 1, none⟩ (.slice A8 L.length c8) = w6 at *
          go_wp2_with fail
          go_roundg g2
          case measure => omega
          case rel => exact ⟨k + 1, A8, c8, by omega, by go_num, by rw [← HLE.out]; exact HBP2.out, HR52.out, by rw [← HLE.out]; exact HR62.out, HG2.out, HO2.out, HE2.out⟩
end Go.Proofs.Ytbbgbepemnmfdaa.fires
