/- The contract of the model's PutBeside. -/
import Derived.Handy
import Derived.Test.YtcnfeijniidclaaBesI
import Derived.Test.YtcnfeijniidclaaApp
import Derived.Test.YtcnfeijniidclaaGoodS
import Derived.Deep.DeepCutAuto
import Derived.Deep.AppendLies
import Derived.Deep.RegionHeldLaw
namespace Go.Proofs.Ytcnfeijniidclaa.bes
open Go.RowKit P2 words edges ints good near adjs fns gws rets mids nearv apps rens
set_option linter.unusedVariables false

/-- behind the region that makes the Graph: its variable, its row -/
def CutS (w wx : World) (a : Value) (n k : Nat) (A : Option Addr) (c : Nat) (A2 : Option Addr) (c2 : Nat) (l m : List Ed) : Prop :=
  ∃ O, a = .pointer (some ⟨O, 0, none⟩) ∧ Mid w wx (w.heap.size + 1 + 1) O ((n : Int) + (k : Int)) l ∧ Blk wx w.heap.size 29 #[.int .i64 (n : Int), .slice A l.length c] ∧
    Blk wx (w.heap.size + 1) 29 #[.int .i64 (k : Int), .slice A2 m.length c2] ∧ w.heap.size + 1 < O
theorem CutS.put {w w2 : World} {O n k c c2 c' : Nat} {A A2 A' : Option Addr} {l m : List Ed} {a b : Value} (hO : Blk w2 O 29 #[a, b]) (ho : w2.ownsRow w.heap.size 72 2 (.slice A' l.length c') l.length (cellsE l))
    (hg : Blk w2 w.heap.size 29 #[.int .i64 (n : Int), .slice A l.length c]) (hx : Blk w2 (w.heap.size + 1) 29 #[.int .i64 (k : Int), .slice A2 m.length c2]) (hr : Blk w2 (w.heap.size + 1 + 1) 29 #[.int .i64 0, .slice none 0 0])
    (hB : Below w.heap.size w w2) (hp : w.heap.size + 1 + 1 < O) : CutS w ((w2.setCell ⟨O, 0, none⟩ (.int .i64 ((n : Int) + (k : Int)))).setCell ⟨O, 1, none⟩ (.slice A' l.length c')) (.pointer (some ⟨O, 0, none⟩)) n k A c A2 c2 l m := by
  have hk : ∀ (W : World) (j : Nat) (u : Value), W.grownBy (W.setCell ⟨O, j, none⟩ u) (some O) := fun W j u => gset (World.grownBy.refl W (some O)) j u
  have hne := own_ne ho hO tne
  refine ⟨O, rfl, ⟨A', c', ?_, (ho.kept (hk _ _ _) (.inr hne)).kept (hk _ _ _) (.inr hne), (hr.far (by show w.heap.size + 1 + 1 ≠ O; omega) _).far (by show w.heap.size + 1 + 1 ≠ O; omega) _, (hB.setCell (by show w.heap.size ≤ O; omega) _).setCell (by show w.heap.size ≤ O; omega) _, by omega, by omega, by omega⟩,
    (hg.far (by show w.heap.size ≠ O; omega) _).far (by show w.heap.size ≠ O; omega) _, (hx.far (by show w.heap.size + 1 ≠ O; omega) _).far (by show w.heap.size + 1 ≠ O; omega) _, by omega⟩
  have := (hO.set_ 0 (.int .i64 ((n : Int) + (k : Int)))).set_ 1 (.slice A' l.length c')
  simpa using this
theorem CutS.new {w w2 : World} {n k c c2 c' : Nat} {A A2 A' : Option Addr} {l m : List Ed} (ho : w2.ownsRow w.heap.size 72 2 (.slice A' l.length c') l.length (cellsE l))
    (hg : Blk w2 w.heap.size 29 #[.int .i64 (n : Int), .slice A l.length c]) (hx : Blk w2 (w.heap.size + 1) 29 #[.int .i64 (k : Int), .slice A2 m.length c2]) (hr : Blk w2 (w.heap.size + 1 + 1) 29 #[.int .i64 0, .slice none 0 0])
    (hB : Below w.heap.size w w2) : CutS w (w2.alloc (.cells #[.int .i64 ((n : Int) + (k : Int)), .slice A' l.length c'] 29)) (.pointer (some ⟨w2.heap.size, 0, none⟩)) n k A c A2 c2 l m := by
  have hp := hr.lt
  exact ⟨w2.heap.size, rfl, ⟨A', c', Blk.new _ _ _, ho.alloc _, hr.alloc _, hB.alloc hB.size _, by omega, by omega, by omega⟩, hg.alloc _, hx.alloc _, by omega⟩
theorem keep_put {w2 : World} {O : Nat} {p : Addr} {v u1 u2 : Value} (h : w2.cell? p = some v) (hp : p.block ≠ O) : ((w2.setCell ⟨O, 0, none⟩ u1).setCell ⟨O, 1, none⟩ u2).cell? p = some v :=
  ((gset (gset (World.grownBy.refl w2 (some O)) 0 u1) 1 u2).cell (a := p) h (by simpa using hp))
theorem keep_one {w2 : World} {O : Nat} {p : Addr} {v u1 : Value} (h : w2.cell? p = some v) (hp : p.block ≠ O) : (w2.setCell ⟨O, 1, none⟩ u1).cell? p = some v :=
  ((gset (World.grownBy.refl w2 (some O)) 1 u1).cell (a := p) h (by simpa using hp))
theorem keep_alloc {w : World} {p : Addr} {v : Value} {o : Obj} (h : w.cell? p = some v) : (w.alloc o).drew.cell? p = some v :=
  ((((Below.refl w.heap.size w).alloc (Nat.le_refl _) o).drew).cell (p := p) (World.block_lt_of_cell? w (a := p) h)).trans h
theorem besS_grown {w W w2 : World} {v v2 : Value} {l : List Ed} (F : W.ownsRow w.heap.size 72 2 v 0 []) (hB : Below w.heap.size w W) (o2 : w2.ownsRow w.heap.size 72 2 v2 (0 + l.length) ([] ++ cellsE l)) (g2 : W.grownBy w2 v.ownBlock) :
    ∃ A' c', v2 = .slice A' l.length c' ∧ w2.ownsRow w.heap.size 72 2 (.slice A' l.length c') l.length (cellsE l) ∧ Below w.heap.size w w2 ∧ (∀ O cs, Blk W O 29 cs → Blk w2 O 29 cs) := by
  rw [Nat.zero_add, List.nil_append] at o2
  obtain ⟨A', c', rfl⟩ := own_form o2
  exact ⟨A', c', rfl, o2, hB.grown g2 hB.size (fun k hk => (F.lt k hk).1), fun O cs h => h.grown g2 (fun e => own_ne F h tne e.symm)⟩
set_option maxHeartbeats 4000000 in
set_option maxRecDepth 100000 in
theorem specBes_any (s t : Int) (v u : Value) (l m : List Ed) (w : World) (h : Edges w v l) (hl : l.length ≤ 1048576) (k : Edges w u m) (hm : m.length ≤ 1048576) (hs1 : -9223372036854775808 ≤ s) (hs2 : s ≤ 9223372036854775807) (ht1 : -9223372036854775808 ≤ t) (ht2 : t ≤ 9223372036854775807) :
    Calls Try.prog 32 #[.agg #[.int .i64 s, v], .agg #[.int .i64 t, u]] w (RetG w (BesOk s t l m) (s + t) (besL (s + t).toNat s l m)) := by
  obtain ⟨i0, hi, hz0, hz1, hz2⟩ := info_parts infoEd
  obtain ⟨A, c, rfl, -⟩ := h.form
  obtain ⟨A2, c2, rfl, -⟩ := k.form
  have H := Lib.hid h
  have HK := Lib.hid k
  have b0 : Below w.heap.size w (((w.alloc (.cells #[.int .i64 s, .slice A l.length c] 29)).alloc (.cells #[.int .i64 t, .slice A2 m.length c2] 29)).alloc (.cells #[.int .i64 0, .slice none 0 0] 29)) :=
    (((Below.refl _ _).alloc (Nat.le_refl _) _).alloc (by simp) _).alloc (by simp; omega) _
  have g0 := ((Blk.new w 29 #[.int .i64 s, .slice A l.length c]).alloc (.cells #[.int .i64 t, .slice A2 m.length c2] 29)).alloc (.cells #[.int .i64 0, .slice none 0 0] 29)
  have x0 := (Blk.new (w.alloc (.cells #[.int .i64 s, .slice A l.length c] 29)) 29 #[.int .i64 t, .slice A2 m.length c2]).alloc (.cells #[.int .i64 0, .slice none 0 0] 29)
  have r0 := Blk.new ((w.alloc (.cells #[.int .i64 s, .slice A l.length c] 29)).alloc (.cells #[.int .i64 t, .slice A2 m.length c2] 29)) 29 #[.int .i64 0, .slice none 0 0]
  simp only [World.size_alloc] at x0 r0
  have HG1 := Lib.hid (l2Good_any s _ l _ (h.below b0) hl hs1 hs2)
  have HG2 := Lib.hid (fun (W : World) (hW : Below w.heap.size w W) => l2Good_any t _ m W (k.below hW) hm ht1 ht2)
  clear h k
  by_cases hg : BesOk s t l m
  · rw [goodB_yes hg.1] at HG1
    obtain ⟨n, rfl⟩ : ∃ n : Nat, s = (n : Int) := ⟨s.toNat, by have := hg.1.1; omega⟩
    obtain ⟨k, rfl⟩ : ∃ k : Nat, t = (k : Int) := ⟨t.toNat, by have := hg.2.1.1; omega⟩
    have hnk : n + k ≤ 8 := by have := hg.2.2; omega
    have hn8 : n ≤ 8 := by omega
    have hk8 : k ≤ 8 := by omega
    have HGD := Lib.hid hg
    have HGB := Lib.hid (goodB_yes hg.2.1)
    have hdst : decide ((8 : Int) < (n : Int) + (k : Int)) = false := decide_eq_false (by omega)
    rw [show ((n : Int) + (k : Int)).toNat = n + k from by omega]
    clear hg
    go_enter Try.func32, Try.ntmps32
    go_wp2_with fail
    refine HG1.out.mono ?_
    rintro e wa ⟨rfl, ba⟩
    have e_wa := btrans b0 ba
    have ga := g0.below ba g0.lt
    have xa := x0.below ba x0.lt
    have ra := r0.below ba r0.lt
    obtain ⟨p0, p1, -, -⟩ := ga.two
    obtain ⟨m0, m1, -, -⟩ := xa.two
    clear HG1 b0 ba g0 r0 x0
    have HG3 := Lib.hid (HG2.out wa e_wa)
    rw [HGB.out] at HG3
    clear HG2
    go_wp2_with fail
    refine HG3.out.mono ?_
    rintro e w1 ⟨rfl, b1⟩
    have e_w1 := btrans e_wa b1
    have g1 := ga.below b1 ga.lt
    have x1 := xa.below b1 xa.lt
    have r1 := ra.below b1 ra.lt
    clear p0 p1 m0 m1 HG3 b1 ga xa ra e_wa
    obtain ⟨p0, p1, -, -⟩ := g1.two
    obtain ⟨m0, m1, -, -⟩ := x1.two
    have hwr : IntKind.i64.wrap ((n : Int) + (k : Int)) = (n : Int) + (k : Int) := IntWalk.i64_in _ (by omega)
    have HA := Lib.hid (show Edges w1 (.slice A l.length c) l from H.out.below e_w1)
    have HB1 := Lib.hid e_w1
    have HG1 := Lib.hid g1
    have HX1 := Lib.hid x1
    have HR1 := Lib.hid r1
    clear e_w1 g1 x1 r1
    go_wp2_with fail
    go_cut [6] (fun a wx => CutS w wx a n k A c A2 c2 l m)
    case first =>
      have D1 := Lib.hid (show Below w1.heap.size w1 (w1.alloc (.cells #[] 72)).drew from ((Below.refl _ _).alloc (Nat.le_refl _) _).drew)
      have F1 := Lib.hid (show ((w1.alloc (.cells #[] 72)).drew).ownsRow w.heap.size 72 2 (.slice (some ⟨w1.heap.size, 0, none⟩) 0 0) 0 [] from own_base (own_new0 w1 72 2) HB1.out.size)
      have D2 := Lib.hid (show Below w1.heap.size w1 ((w1.alloc (.cells #[] 72)).alloc (.cells #[.int .i64 0, .slice none 0 0] 29)).drew from (((Below.refl _ _).alloc (Nat.le_refl _) _).alloc (by simp) _).drew)
      have F2 := Lib.hid (show (((w1.alloc (.cells #[] 72)).alloc (.cells #[.int .i64 0, .slice none 0 0] 29)).drew).ownsRow w.heap.size 72 2 (.slice (some ⟨w1.heap.size, 0, none⟩) 0 0) 0 [] from own_base ((own_new0 w1 72 2).alloc (.cells #[.int .i64 0, .slice none 0 0] 29)) HB1.out.size)
      have D3 := Lib.hid (show Below w1.heap.size w1 ((w1.alloc (.cells #[.int .i64 0, .slice none 0 0] 29)).alloc (.cells #[] 72)).drew from (((Below.refl _ _).alloc (Nat.le_refl _) _).alloc (by simp) _).drew)
      have F3 := Lib.hid (show (((w1.alloc (.cells #[.int .i64 0, .slice none 0 0] 29)).alloc (.cells #[] 72)).drew).ownsRow w.heap.size 72 2 (.slice (some ⟨w1.heap.size + 1, 0, none⟩) 0 0) 0 [] from (by have h_ := own_new0 (w1.alloc (.cells #[.int .i64 0, .slice none 0 0] 29)) 72 2; rw [World.size_alloc] at h_; exact own_base h_ (by have := HB1.out.size; omega)))
      have V2 := Lib.hid (show Blk (((w1.alloc (.cells #[] 72)).alloc (.cells #[.int .i64 0, .slice none 0 0] 29)).drew) (w1.heap.size + 1) 29 #[.int .i64 0, .slice none 0 0] from by have h_ := (Blk.new (w1.alloc (.cells #[] 72)) 29 #[.int .i64 0, .slice none 0 0]).drewN 1; rw [World.size_alloc] at h_; exact h_)
      have V3 := Lib.hid (show Blk (((w1.alloc (.cells #[.int .i64 0, .slice none 0 0] 29)).alloc (.cells #[] 72)).drew) w1.heap.size 29 #[.int .i64 0, .slice none 0 0] from ((Blk.new w1 29 #[.int .i64 0, .slice none 0 0]).alloc (.cells #[] 72)).drewN 1)
      have LT : Hid ((cellsE l).length = l.length * 2) := cellsE_len l
      have hs1 := HR1.out.lt
      go_region_held_law (fun w' => w'.cell? ⟨w.heap.size, 0, none⟩ = some (.int .i64 (n : Int)) ∧ w'.cell? ⟨w.heap.size, 1, none⟩ = some (.slice A l.length c) ∧ w'.cell? ⟨w.heap.size + 1, 0, none⟩ = some (.int .i64 (k : Int))) (first | go_keep | exact ⟨t0, t1, t2⟩ | exact ⟨keep_put t0 (by show w.heap.size ≠ _; omega), keep_put t1 (by show w.heap.size ≠ _; omega), keep_put t2 (by show w.heap.size + 1 ≠ _; omega)⟩) (first
        | (refine step_append_any _ rfl (.tmp 30) (.tmp 32) 22 rfl w.heap.size 72 i0 (.agg #[.int .i64 0, .int .i64 0]) 2 16 Try.underlying22 hi hz0 hz1 hz2 rfl (by decide) (.slice (some ⟨w1.heap.size, 0, none⟩) 0 0) 0 [] rfl ?_ (.slice A l.length c) l.length (cellsE l) rfl ?_ LT.out (oneE _) (by unfold maxLen; omega) (by omega) ?_ ?_
           with_reducible exact F1.out
           with_reducible exact HA.out.below D1.out
           exact (btrans HB1.out D1.out).size
           intro v2 w2 o2 g2
           obtain ⟨A3, c3, rfl, oo, ee, kk⟩ := besS_grown F1.out (btrans HB1.out D1.out) o2 g2
           have gg := kk _ _ (HG1.out.below D1.out HG1.out.lt); have xx := kk _ _ (HX1.out.below D1.out HX1.out.lt); have rr := kk _ _ (HR1.out.below D1.out HR1.out.lt); obtain ⟨t0, t1, -, -⟩ := gg.two; obtain ⟨t2, -, -, -⟩ := xx.two; have rl := rr.lt)
        | (refine step_append_any _ rfl (.tmp 30) (.tmp 32) 22 rfl w.heap.size 72 i0 (.agg #[.int .i64 0, .int .i64 0]) 2 16 Try.underlying22 hi hz0 hz1 hz2 rfl (by decide) (.slice (some ⟨w1.heap.size, 0, none⟩) 0 0) 0 [] rfl ?_ (.slice A l.length c) l.length (cellsE l) rfl ?_ LT.out (oneE _) (by unfold maxLen; omega) (by omega) ?_ ?_
           with_reducible exact F2.out
           with_reducible exact HA.out.below D2.out
           exact (btrans HB1.out D2.out).size
           intro v2 w2 o2 g2
           obtain ⟨A3, c3, rfl, oo, ee, kk⟩ := besS_grown F2.out (btrans HB1.out D2.out) o2 g2
           have gg := kk _ _ (HG1.out.below D2.out HG1.out.lt); have xx := kk _ _ (HX1.out.below D2.out HX1.out.lt); have rr := kk _ _ (HR1.out.below D2.out HR1.out.lt); obtain ⟨t0, t1, -, -⟩ := gg.two; obtain ⟨t2, -, -, -⟩ := xx.two; have rl := rr.lt; have vv := kk _ _ V2.out; obtain ⟨j0, j1, j2, j3⟩ := vv.two)
        | (refine step_append_any _ rfl (.tmp 30) (.tmp 32) 22 rfl w.heap.size 72 i0 (.agg #[.int .i64 0, .int .i64 0]) 2 16 Try.underlying22 hi hz0 hz1 hz2 rfl (by decide) (.slice (some ⟨w1.heap.size + 1, 0, none⟩) 0 0) 0 [] rfl ?_ (.slice A l.length c) l.length (cellsE l) rfl ?_ LT.out (oneE _) (by unfold maxLen; omega) (by omega) ?_ ?_
           with_reducible exact F3.out
           with_reducible exact HA.out.below D3.out
           exact (btrans HB1.out D3.out).size
           intro v2 w2 o2 g2
           obtain ⟨A3, c3, rfl, oo, ee, kk⟩ := besS_grown F3.out (btrans HB1.out D3.out) o2 g2
           have gg := kk _ _ (HG1.out.below D3.out HG1.out.lt); have xx := kk _ _ (HX1.out.below D3.out HX1.out.lt); have rr := kk _ _ (HR1.out.below D3.out HR1.out.lt); obtain ⟨t0, t1, -, -⟩ := gg.two; obtain ⟨t2, -, -, -⟩ := xx.two; have rl := rr.lt; have vv := kk _ _ V3.out; obtain ⟨j0, j1, j2, j3⟩ := vv.two))
      all_goals (go_wp2_with fail; go_meet)
      all_goals first
        | (with_reducible exact CutS.new oo gg xx rr ee)
        | (with_reducible exact CutS.put vv oo gg xx rr ee (by omega))
    case rest =>
      obtain ⟨O, rfl, hM0, hg0, hx0, hO0⟩ := hcut
      have HM0 := Lib.hid hM0
      have HG0 := Lib.hid hg0
      have HX0 := Lib.hid hx0
      have HKF := Lib.hid HK.out.form
      clear hM0 hg0 hx0 p0 p1 m0 m1 hwr HB1 HG1 HX1 HR1 HA
      go_wp2_with fail
      go_loopg [7] m.length (fun g iv wr => ∃ i : Nat, i + g = m.length ∧ iv = .int .i64 (i : Int) ∧ Mid w wr (w.heap.size + 1 + 1) O ((n : Int) + (k : Int)) (besTo (n : Int) l m i) ∧ Blk wr w.heap.size 29 #[.int .i64 (n : Int), .slice A l.length c] ∧ Blk wr (w.heap.size + 1) 29 #[.int .i64 (k : Int), .slice A2 m.length c2])
      case atStart => exact ⟨0, by omega, rfl, by rw [besTo_zero]; exact HM0.out, HG0.out, HX0.out⟩
      case round =>
        clear HM0 HG0 HX0
        obtain ⟨i, hig, rfl, hmid, hgb, hxb⟩ := hrel
        obtain ⟨p0, p1, -, -⟩ := hgb.two
        obtain ⟨m0, m1, -, -⟩ := hxb.two
        have hlen := besTo_len (s := (n : Int)) (l := l) (m := m) (k := i) (by omega)
        cases gk with
        | zero =>
          obtain rfl : i = m.length := by omega
          obtain ⟨A3, c3, bO, hr, bR, hB, h5⟩ := hmid
          obtain ⟨o0, o1, -, -⟩ := bO.two
          have HD := Lib.hid (Mid.done (n := (n : Int) + (k : Int)) hr bR hB h5.1)
          obtain ⟨q0, q1, z0, z1⟩ := bR.two
          have HE : Hid (besTo (n : Int) l m m.length = besL (n + k) (n : Int) l m) := by
            have h_ := bes_eq HGD.out.1 HGD.out.2.1
            rw [show ((n : Int) + (k : Int)).toNat = n + k from by omega] at h_
            exact besTo_all.trans h_.symm
          clear hr bR hB h5 hgb hxb bO hlen
          generalize besTo (n : Int) l m m.length = L at *
          go_wp2_with fail
          refine bodyPost_ret (v := .tuple #[.agg #[.int .i64 ((n : Int) + (k : Int)), .slice A3 (L).length c3], .bool true]) (by simp [results, Try.results32, go_sem, q0, q1]) rfl ((by rw [← HE.out]; exact RetG.yes HGD.out HD.out.1 HD.out.2))
        | succ g2 =>
          have hlt : i < m.length := by omega
          have hlt' : (i : Int) < (m.length : Int) := by omega
          obtain ⟨d, hd⟩ : ∃ d, m[i]? = some d := ⟨_, List.getElem?_eq_getElem hlt⟩
          obtain ⟨_, _, hf, hcc⟩ := HKF.out
          cases hf
          obtain ⟨gm, om, rfl, c0, c1⟩ := hcc i d hd
          have hdm := HGD.out.2.1.mem (List.mem_of_getElem? hd)
          have HS := Lib.hid (besTo_succ (s := (n : Int)) (l := l) hd)
          obtain ⟨a, b⟩ := d
          simp only at hdm c0 c1
          have hwa : IntKind.i64.wrap (a + (n : Int)) = a + (n : Int) := IntWalk.i64_in _ (by omega)
          have hwb : IntKind.i64.wrap (b + (n : Int)) = b + (n : Int) := IntWalk.i64_in _ (by omega)
          have hgm := World.block_lt_of_cell? w (a := ⟨gm, om + i * 2, none⟩) c0
          have HC0 := Lib.hid c0
          have HC1 := Lib.hid c1
          obtain ⟨A3, c3, bO, hr, bR, hB, h5⟩ := hmid.call (Below.refl wr.heap.size wr).drew
          obtain ⟨o0, o1, -, -⟩ := bO.two
          have hO9 : O < wr.heap.size := bO.lt
          have hBs : w.heap.size ≤ wr.heap.size := hB.size
          have q0 : wr.cell? ⟨gm, om + i * 2, none⟩ = some (.int .i64 a) := (show wr.drew.cell? ⟨gm, om + i * 2, none⟩ = some (.int .i64 a) from nearv.cell_keep c0 hB)
          have q1 : wr.cell? ⟨gm, om + i * 2 + 1, none⟩ = some (.int .i64 b) := (show wr.drew.cell? ⟨gm, om + i * 2 + 1, none⟩ = some (.int .i64 b) from nearv.cell_keep c1 hB)
          have o3' := keep_alloc (o := (.cells #[.int .i64 (a + n), .int .i64 (b + n)] 72)) (show wr.cell? ⟨O, 1, none⟩ = some (.slice A3 (besTo (n : Int) l m i).length c3) from o1)
          have F1 := Lib.hid (show ((wr.alloc (.cells #[.int .i64 (a + n), .int .i64 (b + n)] 72)).drew).ownsRow w.heap.size 72 2 (.slice A3 (besTo (n : Int) l m i).length c3) (besTo (n : Int) l m i).length (cellsE (besTo (n : Int) l m i)) from hr.alloc _)
          have N1 := Lib.hid (show ∀ j u, (cellsE [(a + (n : Int), b + (n : Int))])[j]? = some u → ((wr.alloc (.cells #[.int .i64 (a + n), .int .i64 (b + n)] 72)).drew).cell? ((⟨wr.heap.size, 0, none⟩ : Addr).add j) = some u from cell_two_new wr.drew _ _ _)
          have HBO := Lib.hid bO
          have HR := Lib.hid hr
          have HBR := Lib.hid bR
          have HB := Lib.hid hB
          have HGB : Hid (Blk wr.drew w.heap.size 29 #[.int .i64 (n : Int), .slice A l.length c]) := hgb.drewN 1
          have HXB := Lib.hid (hxb.drewN 1)
          have hLb : (besTo (n : Int) l m i).length ≤ 2097152 := by omega
          clear hd c0 c1 hmid bO hr bR hB hgb hxb hlen
          generalize besTo (n : Int) l m i = L at *
          go_wp2_with fail
          refine wp_region_held_drew (S := (fun w' : World => w'.cell? ⟨w.heap.size, 0, none⟩ = some (.int .i64 (n : Int)) ∧ w'.cell? ⟨w.heap.size + 1, 1, none⟩ = some (.slice (some ⟨gm, om, none⟩) m.length c2) ∧ w'.cell? ⟨gm, om + i * 2, none⟩ = some (.int .i64 a) ∧ w'.cell? ⟨gm, om + i * 2 + 1, none⟩ = some (.int .i64 b))) (by kernel_rfl) (by (try dsimp only); simp [*]) (fun hHeld => ?_)
          change wpAnyH _ _ _ _ _ _ #[false, false, false, false, false, false, false, false, false, false, false, false, false, false, false, false, false, false, false, false, false, false, false, false, false] _ _
          refine wpAnyH_take (i := 0) (oi := ⟨some 42, _, _, _, _, _⟩) (v := ?_) rfl (by kernel_rfl) (by kernel_rfl) (by kernel_rfl) (fun _ _ _ h => h) (Or.inl ⟨by rfl, ?_⟩) (by assumption) ?_
          rotate_left
          · (intro w hSw; (try dsimp only at hSw); go_simp; (try (with_reducible rfl)))
          try simp only [Act.put, List.setIfInBounds_toArray, List.set_cons_zero, List.set_cons_succ]
          refine wpAnyH_take (i := 2) (oi := ⟨some 44, _, _, _, _, _⟩) (v := ?_) rfl (by kernel_rfl) (by kernel_rfl) (by kernel_rfl) (fun _ _ _ h => h) (Or.inl ⟨by rfl, ?_⟩) (by assumption) ?_
          rotate_left
          · (intro w hSw; (try dsimp only at hSw); go_simp; (try (with_reducible rfl)))
          try simp only [Act.put, List.setIfInBounds_toArray, List.set_cons_zero, List.set_cons_succ]
          refine wpAnyH_take (i := 3) (oi := ⟨some 45, _, _, _, _, _⟩) (v := ?_) rfl (by kernel_rfl) (by kernel_rfl) (by kernel_rfl) (fun _ _ _ h => h) (Or.inl ⟨by rfl, ?_⟩) (by assumption) ?_
          rotate_left
          · (intro w hSw; (try dsimp only at hSw); go_simp; (try (with_reducible rfl)))
          try simp only [Act.put, List.setIfInBounds_toArray, List.set_cons_zero, List.set_cons_succ]
          refine wpAnyH_take (i := 4) (oi := ⟨some 46, _, _, _, _, _⟩) (v := ?_) rfl (by kernel_rfl) (by kernel_rfl) (by kernel_rfl) (fun _ _ _ h => h) (Or.inl ⟨by rfl, ?_⟩) (by assumption) ?_
          rotate_left
          · (intro w hSw; (try dsimp only at hSw); go_simp; (try (with_reducible rfl)))
          try simp only [Act.put, List.setIfInBounds_toArray, List.set_cons_zero, List.set_cons_succ]
          refine wpAnyH_take (i := 5) (oi := ⟨some 47, _, _, _, _, _⟩) (v := ?_) rfl (by kernel_rfl) (by kernel_rfl) (by kernel_rfl) (fun _ _ _ h => h) (Or.inl ⟨by rfl, ?_⟩) (by assumption) ?_
          rotate_left
          · (intro w hSw; (try dsimp only at hSw); go_simp; (try (with_reducible rfl)))
          try simp only [Act.put, List.setIfInBounds_toArray, List.set_cons_zero, List.set_cons_succ]
          refine wpAnyH_take (i := 6) (oi := ⟨some 48, _, _, _, _, _⟩) (v := ?_) rfl (by kernel_rfl) (by kernel_rfl) (by kernel_rfl) (fun _ _ _ h => h) (Or.inl ⟨by rfl, ?_⟩) (by assumption) ?_
          rotate_left
          · (intro w hSw; (try dsimp only at hSw); go_simp; (try (with_reducible rfl)))
          try simp only [Act.put, List.setIfInBounds_toArray, List.set_cons_zero, List.set_cons_succ]
          refine wpAnyH_take (i := 7) (oi := ⟨some 49, _, _, _, _, _⟩) (v := ?_) rfl (by kernel_rfl) (by kernel_rfl) (by kernel_rfl) (fun _ _ _ h => h) (Or.inl ⟨by rfl, ?_⟩) (by assumption) ?_
          rotate_left
          · (intro w hSw; (try dsimp only at hSw); go_simp; (try (with_reducible rfl)))
          try simp only [Act.put, List.setIfInBounds_toArray, List.set_cons_zero, List.set_cons_succ]
          refine wpAnyH_take (i := 8) (oi := ⟨some 50, _, _, _, _, _⟩) (v := ?_) rfl (by kernel_rfl) (by kernel_rfl) (by kernel_rfl) (fun _ _ _ h => h) (Or.inl ⟨by rfl, ?_⟩) (by assumption) ?_
          rotate_left
          · (intro w hSw; (try dsimp only at hSw); go_simp; (try (with_reducible rfl)))
          try simp only [Act.put, List.setIfInBounds_toArray, List.set_cons_zero, List.set_cons_succ]
          refine wpAnyH_take (i := 9) (oi := ⟨some 51, _, _, _, _, _⟩) (v := ?_) rfl (by kernel_rfl) (by kernel_rfl) (by kernel_rfl) (fun _ _ _ h => h) (Or.inl ⟨by rfl, ?_⟩) (by assumption) ?_
          rotate_left
          · (intro w hSw; (try dsimp only at hSw); go_simp; (try (with_reducible rfl)))
          try simp only [Act.put, List.setIfInBounds_toArray, List.set_cons_zero, List.set_cons_succ]
          refine wpAnyH_take (i := 10) (oi := ⟨some 52, _, _, _, _, _⟩) (v := ?_) rfl (by kernel_rfl) (by kernel_rfl) (by kernel_rfl) (fun _ _ _ h => h) (Or.inl ⟨by rfl, ?_⟩) (by assumption) ?_
          rotate_left
          · (intro w hSw; (try dsimp only at hSw); go_simp; (try (with_reducible rfl)))
          try simp only [Act.put, List.setIfInBounds_toArray, List.set_cons_zero, List.set_cons_succ]
          refine wpAnyH_take (i := 11) (oi := ⟨some 53, _, _, _, _, _⟩) (v := ?_) rfl (by kernel_rfl) (by kernel_rfl) (by kernel_rfl) (fun _ _ _ h => h) (Or.inl ⟨by rfl, ?_⟩) (by assumption) ?_
          rotate_left
          · (intro w hSw; (try dsimp only at hSw); go_simp; (try (with_reducible rfl)))
          try simp only [Act.put, List.setIfInBounds_toArray, List.set_cons_zero, List.set_cons_succ]
          refine wpAnyH_take (i := 12) (oi := ⟨some 54, _, _, _, _, _⟩) (v := ?_) rfl (by kernel_rfl) (by kernel_rfl) (by kernel_rfl) (fun _ _ _ h => h) (Or.inl ⟨by rfl, ?_⟩) (by assumption) ?_
          rotate_left
          · (intro w hSw; (try dsimp only at hSw); go_simp; (try (with_reducible rfl)))
          try simp only [Act.put, List.setIfInBounds_toArray, List.set_cons_zero, List.set_cons_succ]
          refine wpAnyH_take (i := 13) (oi := ⟨some 55, _, _, _, _, _⟩) (v := ?_) rfl (by kernel_rfl) (by kernel_rfl) (by kernel_rfl) (fun _ _ _ h => h) (Or.inl ⟨by rfl, ?_⟩) (by assumption) ?_
          rotate_left
          · (intro w hSw; (try dsimp only at hSw); go_simp; (try (with_reducible rfl)))
          try simp only [Act.put, List.setIfInBounds_toArray, List.set_cons_zero, List.set_cons_succ]
          refine wpAnyH_take (i := 14) (oi := ⟨some 56, _, _, _, _, _⟩) (v := ?_) rfl (by kernel_rfl) (by kernel_rfl) (by kernel_rfl) (fun _ _ _ h => h) (Or.inl ⟨by rfl, ?_⟩) (by assumption) ?_
          rotate_left
          · (intro w hSw; (try dsimp only at hSw); go_simp; (try (with_reducible rfl)))
          try simp only [Act.put, List.setIfInBounds_toArray, List.set_cons_zero, List.set_cons_succ]
          refine wpAnyH_take (i := 15) (oi := ⟨some 57, _, _, _, _, _⟩) (v := ?_) rfl (by kernel_rfl) (by kernel_rfl) (by kernel_rfl) (fun _ _ _ h => h) (Or.inl ⟨by rfl, ?_⟩) (by assumption) ?_
          rotate_left
          · (intro w hSw; (try dsimp only at hSw); go_simp; (try (with_reducible rfl)))
          try simp only [Act.put, List.setIfInBounds_toArray, List.set_cons_zero, List.set_cons_succ]
          refine wpAnyH_take (i := 16) (oi := ⟨some 58, _, _, _, _, _⟩) (v := ?_) rfl (by kernel_rfl) (by kernel_rfl) (by kernel_rfl) (fun _ _ _ h => h) (Or.inl ⟨by rfl, ?_⟩) (by assumption) ?_
          rotate_left
          · (intro w hSw; (try dsimp only at hSw); go_simp; (try (with_reducible rfl)))
          try simp only [Act.put, List.setIfInBounds_toArray, List.set_cons_zero, List.set_cons_succ]
          refine wpAnyH_take (i := 17) (oi := ⟨some 59, _, _, _, _, _⟩) (v := ?_) rfl (by kernel_rfl) (by kernel_rfl) (by kernel_rfl) (fun _ _ _ h => h) (Or.inl ⟨by rfl, ?_⟩) (by assumption) ?_
          rotate_left
          · (intro w hSw; (try dsimp only at hSw); go_simp; (try (with_reducible rfl)))
          try simp only [Act.put, List.setIfInBounds_toArray, List.set_cons_zero, List.set_cons_succ]
          refine wpAnyH_take (i := 18) (oi := ⟨some 60, _, _, _, _, _⟩) (v := ?_) rfl (by kernel_rfl) (by kernel_rfl) (by kernel_rfl) (fun _ _ _ h => h) (Or.inl ⟨by rfl, ?_⟩) (by assumption) ?_
          rotate_left
          · (intro w hSw; (try dsimp only at hSw); go_simp; (try (with_reducible rfl)))
          try simp only [Act.put, List.setIfInBounds_toArray, List.set_cons_zero, List.set_cons_succ]
          refine wpAnyH_take (i := 19) (oi := ⟨some 61, _, _, _, _, _⟩) (v := ?_) rfl (by kernel_rfl) (by kernel_rfl) (by kernel_rfl) (fun _ _ _ h => h) (Or.inl ⟨by rfl, ?_⟩) (by assumption) ?_
          rotate_left
          · (intro w hSw; (try dsimp only at hSw); go_simp; (try (with_reducible rfl)))
          try simp only [Act.put, List.setIfInBounds_toArray, List.set_cons_zero, List.set_cons_succ]
          refine wpAnyH_take (i := 20) (oi := ⟨some 62, _, _, _, _, _⟩) (v := ?_) rfl (by kernel_rfl) (by kernel_rfl) (by kernel_rfl) (fun _ _ _ h => h) (Or.inl ⟨by rfl, ?_⟩) (by assumption) ?_
          rotate_left
          · (intro w hSw; (try dsimp only at hSw); go_simp; (try (with_reducible rfl)))
          try simp only [Act.put, List.setIfInBounds_toArray, List.set_cons_zero, List.set_cons_succ]
          refine wpAnyH_ready (rs := [1, 21]) (by kernel_rfl) (by simp) ?_
          refine AllReadyH.cons rfl (fun K hK => ?_) ?_
          · go_simp
            refine hK.out _ _ hHeld (fun hHeld => ?_)
            clear hK K
            try simp only [List.setIfInBounds_toArray, List.set_cons_zero, List.set_cons_succ]
            refine wpAnyH_ready (rs := [21]) (by kernel_rfl) (by simp) ?_
            refine AllReadyH.cons rfl (fun K hK => ?_) AllReadyH.nil
            go_simp
            refine hK.out _ _ (⟨keep_alloc p0, keep_alloc m1, keep_alloc q0, keep_alloc q1⟩) (fun hHeld => ?_)
            clear hK K
            try simp only [List.setIfInBounds_toArray, List.set_cons_zero, List.set_cons_succ]
            refine wpAnyH_ready (rs := [22]) (by kernel_rfl) (by simp) ?_
            refine AllReadyH.cons rfl (fun K hK => ?_) AllReadyH.nil
            (refine step_append_lies _ rfl (.tmp 43) (.tmp 63) 22 rfl w.heap.size 72 i0 (.agg #[.int .i64 0, .int .i64 0]) 2 16 Try.underlying22 hi hz0 hz1 hz2 rfl (by decide) (.slice A3 L.length c3) L.length (cellsE L) rfl F1.out ⟨wr.heap.size, 0, none⟩ 1 1 (cellsE [(a + (n : Int), b + (n : Int))]) rfl rfl N1.out (oneE _) (by decide) (by unfold maxLen; omega) (by omega) (by simp; omega) (wr.heap.size + 1) (by simp) ?_; intro g6 cap6 w6 own6 grow6 lies6 lt6; obtain ⟨A6, c6, hv6, hm6, hk6⟩ := Mid.push HBO.out HR.out HBR.out HB.out h5 own6 rfl grow6; cases hv6; have gg := grown_blk (w := wr.drew) HR.out HGB.out tne grow6; have xx := grown_blk (w := wr.drew) HR.out HXB.out tne grow6; obtain ⟨t0, -, -, -⟩ := gg.two; obtain ⟨-, t1, -, -⟩ := xx.two; obtain ⟨z0, z1, z2, z3⟩ := hk6.two; have e6 : Below w.heap.size w w6 := ((HB.out.alloc hBs _).grown grow6 (by simp; omega) (fun k hk => (HR.out.lt k hk).1)); have t2 := nearv.cell_keep HC0.out e6; have t3 := nearv.cell_keep HC1.out e6)
            refine hK.out _ _ (⟨t0, t1, t2, t3⟩) (fun hHeld => ?_)
            clear hK K
            try simp only [Act.put, List.setIfInBounds_toArray, List.set_cons_zero, List.set_cons_succ]
            refine wpAnyH_take (i := 23) (oi := ⟨some 65, _, _, _, _, _⟩) (v := ?_) rfl (by kernel_rfl) (by kernel_rfl) (by kernel_rfl) (fun _ _ _ h => h) (Or.inl ⟨by rfl, ?_⟩) (by assumption) ?_
            rotate_left
            · (intro w hSw; (try dsimp only at hSw); go_simp; (try (with_reducible rfl)))
            try simp only [Act.put, List.setIfInBounds_toArray, List.set_cons_zero, List.set_cons_succ]
            refine wpAnyH_ready (rs := [24]) (by kernel_rfl) (by simp) ?_
            refine AllReadyH.cons rfl (fun K hK => ?_) AllReadyH.nil
            go_simp
            refine hK.out _ _ (⟨keep_one t0 (by show w.heap.size ≠ _; omega), keep_one t1 (by show w.heap.size + 1 ≠ _; omega), keep_one t2 (by show gm ≠ _; omega), keep_one t3 (by show gm ≠ _; omega)⟩) (fun hHeld => ?_)
            clear hK K
            refine wpAnyH_done (by kernel_rfl) ?_ _
            go_wp2_with fail
            go_roundg g2
            case measure => omega
            case rel => exact ⟨i + 1, by omega, by go_num, by rw [HS.out]; exact hm6, gg.far (by show w.heap.size ≠ O; omega) _, xx.far (by show w.heap.size + 1 ≠ O; omega) _⟩
          · refine AllReadyH.cons rfl (fun K hK => ?_) AllReadyH.nil
            go_simp
            refine hK.out _ _ ⟨keep_alloc p0, keep_alloc m1, keep_alloc q0, keep_alloc q1⟩ (fun hHeld => ?_)
            clear hK K
            try simp only [List.setIfInBounds_toArray, List.set_cons_zero, List.set_cons_succ]
            refine wpAnyH_ready (rs := [1]) (by kernel_rfl) (by simp) ?_
            refine AllReadyH.cons rfl (fun K hK => ?_) AllReadyH.nil
            go_simp
            refine hK.out _ _ (hHeld) (fun hHeld => ?_)
            clear hK K
            try simp only [List.setIfInBounds_toArray, List.set_cons_zero, List.set_cons_succ]
            refine wpAnyH_ready (rs := [22]) (by kernel_rfl) (by simp) ?_
            refine AllReadyH.cons rfl (fun K hK => ?_) AllReadyH.nil
            (refine step_append_lies _ rfl (.tmp 43) (.tmp 63) 22 rfl w.heap.size 72 i0 (.agg #[.int .i64 0, .int .i64 0]) 2 16 Try.underlying22 hi hz0 hz1 hz2 rfl (by decide) (.slice A3 L.length c3) L.length (cellsE L) rfl F1.out ⟨wr.heap.size, 0, none⟩ 1 1 (cellsE [(a + (n : Int), b + (n : Int))]) rfl rfl N1.out (oneE _) (by decide) (by unfold maxLen; omega) (by omega) (by simp; omega) (wr.heap.size + 1) (by simp) ?_; intro g6 cap6 w6 own6 grow6 lies6 lt6; obtain ⟨A6, c6, hv6, hm6, hk6⟩ := Mid.push HBO.out HR.out HBR.out HB.out h5 own6 rfl grow6; cases hv6; have gg := grown_blk (w := wr.drew) HR.out HGB.out tne grow6; have xx := grown_blk (w := wr.drew) HR.out HXB.out tne grow6; obtain ⟨t0, -, -, -⟩ := gg.two; obtain ⟨-, t1, -, -⟩ := xx.two; obtain ⟨z0, z1, z2, z3⟩ := hk6.two; have e6 : Below w.heap.size w w6 := ((HB.out.alloc hBs _).grown grow6 (by simp; omega) (fun k hk => (HR.out.lt k hk).1)); have t2 := nearv.cell_keep HC0.out e6; have t3 := nearv.cell_keep HC1.out e6)
            refine hK.out _ _ (⟨t0, t1, t2, t3⟩) (fun hHeld => ?_)
            clear hK K
            try simp only [Act.put, List.setIfInBounds_toArray, List.set_cons_zero, List.set_cons_succ]
            refine wpAnyH_take (i := 23) (oi := ⟨some 65, _, _, _, _, _⟩) (v := ?_) rfl (by kernel_rfl) (by kernel_rfl) (by kernel_rfl) (fun _ _ _ h => h) (Or.inl ⟨by rfl, ?_⟩) (by assumption) ?_
            rotate_left
            · (intro w hSw; (try dsimp only at hSw); go_simp; (try (with_reducible rfl)))
            try simp only [Act.put, List.setIfInBounds_toArray, List.set_cons_zero, List.set_cons_succ]
            refine wpAnyH_ready (rs := [24]) (by kernel_rfl) (by simp) ?_
            refine AllReadyH.cons rfl (fun K hK => ?_) AllReadyH.nil
            go_simp
            refine hK.out _ _ (⟨keep_one t0 (by show w.heap.size ≠ _; omega), keep_one t1 (by show w.heap.size + 1 ≠ _; omega), keep_one t2 (by show gm ≠ _; omega), keep_one t3 (by show gm ≠ _; omega)⟩) (fun hHeld => ?_)
            clear hK K
            refine wpAnyH_done (by kernel_rfl) ?_ _
            go_wp2_with fail
            go_roundg g2
            case measure => omega
            case rel => exact ⟨i + 1, by omega, by go_num, by rw [HS.out]; exact hm6, gg.far (by show w.heap.size ≠ O; omega) _, xx.far (by show w.heap.size + 1 ≠ O; omega) _⟩
  · have HN := Lib.hid hg
    by_cases h1 : P2.Good s l
    · rw [goodB_yes h1] at HG1
      by_cases h2 : P2.Good t m
      · have HGB := Lib.hid (goodB_yes h2)
        have hst : 8 < s + t := by
          apply Classical.byContradiction
          intro hh
          exact hg ⟨h1, h2, by omega⟩
        have hs := h1.1
        have hs8 := h1.2.1
        have ht := h2.1
        have ht8 := h2.2.1
        clear hg h1 h2
        go_enter Try.func32, Try.ntmps32
        go_wp2_with fail
        refine HG1.out.mono ?_
        rintro e wa ⟨rfl, ba⟩
        have e_wa := btrans b0 ba
        have ga := g0.below ba g0.lt
        have xa := x0.below ba x0.lt
        have ra := r0.below ba r0.lt
        obtain ⟨p0, p1, -, -⟩ := ga.two
        obtain ⟨m0, m1, -, -⟩ := xa.two
        clear HG1 b0 ba g0 r0 x0
        have HG3 := Lib.hid (HG2.out wa e_wa)
        rw [HGB.out] at HG3
        clear HG2
        go_wp2_with fail
        refine HG3.out.mono ?_
        rintro e w1 ⟨rfl, b1⟩
        have e_w1 := btrans e_wa b1
        have g1 := ga.below b1 ga.lt
        have x1 := xa.below b1 xa.lt
        have r1 := ra.below b1 ra.lt
        clear p0 p1 m0 m1 HG3 b1 ga xa ra e_wa
        obtain ⟨p0, p1, -, -⟩ := g1.two
        obtain ⟨m0, m1, -, -⟩ := x1.two
        obtain ⟨q0, q1, z0, z1⟩ := r1.two
        go_wp2_with fail
        refine bodyPost_ret (v := .tuple #[.agg #[.int .i64 0, .slice none 0 0], .bool false]) (by simp [results, Try.results32, go_sem, q0, q1]) rfl (RetG.no HN.out (by have hz_ := (e_w1).size; have hb_ := e_w1; go_grown))
      · have HGB := Lib.hid (goodB_no h2)
        clear hg h1 h2
        go_enter Try.func32, Try.ntmps32
        go_wp2_with fail
        refine HG1.out.mono ?_
        rintro e wa ⟨rfl, ba⟩
        have e_wa := btrans b0 ba
        have ga := g0.below ba g0.lt
        have xa := x0.below ba x0.lt
        have ra := r0.below ba r0.lt
        obtain ⟨p0, p1, -, -⟩ := ga.two
        obtain ⟨m0, m1, -, -⟩ := xa.two
        clear HG1 b0 ba g0 r0 x0
        have HG3 := Lib.hid (HG2.out wa e_wa)
        rw [HGB.out] at HG3
        clear HG2
        go_wp2_with fail
        refine HG3.out.mono ?_
        rintro e w1 ⟨rfl, b1⟩
        have e_w1 := btrans e_wa b1
        have r1 := ra.below b1 ra.lt
        clear p0 p1 m0 m1 HG3 b1 ga xa ra e_wa
        obtain ⟨q0, q1, z0, z1⟩ := r1.two
        go_wp2_with fail
        refine bodyPost_ret (v := .tuple #[.agg #[.int .i64 0, .slice none 0 0], .bool false]) (by simp [results, Try.results32, go_sem, q0, q1]) rfl (RetG.no HN.out (by have hz_ := (e_w1).size; have hb_ := e_w1; go_grown))
    · rw [goodB_no h1] at HG1
      clear hg h1
      go_enter Try.func32, Try.ntmps32
      go_wp2_with fail
      refine HG1.out.mono ?_
      rintro e w1 ⟨rfl, b1⟩
      have e_w1 := btrans b0 b1
      have r1 := r0.below b1 r0.lt
      obtain ⟨q0, q1, z0, z1⟩ := r1.two
      clear HG1 b0 b1 g0 x0 r0 r1
      go_wp2_with fail
      refine bodyPost_ret (v := .tuple #[.agg #[.int .i64 0, .slice none 0 0], .bool false]) (by simp [results, Try.results32, go_sem, q0, q1]) rfl (RetG.no HN.out (by have hz_ := (e_w1).size; have hb_ := e_w1; go_grown))
end Go.Proofs.Ytcnfeijniidclaa.bes
