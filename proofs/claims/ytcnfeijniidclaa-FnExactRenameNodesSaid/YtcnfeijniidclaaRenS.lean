/- The contracts of the model's l2Renamed and RenameNodes. -/
import Derived.Handy
import Derived.Test.YtcnfeijniidclaaRenM
import Derived.Test.YtcnfeijniidclaaToggM
import Derived.Test.YtcnfeijniidclaaNearV
import Derived.Deep.DeepCutAuto
import Derived.Deep.RegionHeld3
import Derived.Deep.RegionHeldLaw
namespace Go.Proofs.Ytcnfeijniidclaa.rens
open Go.RowKit P2 words edges ints good adjs fns gws sets rets mids nearv each func put togg
set_option linter.unusedVariables false

/-- a new row into the Graph in the making -/
theorem Mid.take {w wr : World} {R O : Nat} {n : Int} {l L : List Ed} {A : Option Addr} {c : Nat} (h : Mid w wr R O n l) (hr : wr.ownsRow w.heap.size 72 2 (.slice A L.length c) L.length (cellsE L)) :
    Mid w (wr.setCell ⟨O, 1, none⟩ (.slice A L.length c)) R O n L := by
  obtain ⟨A0, c0, h1, h2, h3, h4, h5⟩ := h
  have hk : wr.grownBy (wr.setCell ⟨O, 1, none⟩ (.slice A L.length c)) (some O) := ⟨rfl, rfl, rfl, by simp [World.setCell], fun k _ hk => Below.heap_setCell _ _ _ _ (fun e => hk (by simp [e]))⟩
  refine ⟨A, c, ?_, hr.kept hk (.inr (own_ne hr h1 tne)), h3.far h5.2.2 _, h4.setCell h5.2.1 _, h5⟩
  have := h1.set_ 1 (.slice A L.length c)
  simpa using this

set_option maxHeartbeats 4000000 in
set_option maxRecDepth 100000 in
theorem l2Ren_any (n : Nat) (v u : Value) (l : List Ed) (tl : List Int) (w : World) (h : Edges w v l) (hl : l.length ≤ 1048576) (hu : Ints w u tl) (hg : P2.Good n l) (he : EachS n tl) (hn8 : n ≤ 8) :
    Calls Try.prog 70 #[.agg #[.int .i64 (n : Int), v], u] w fun e w' => ∃ A c, e = .returned (.agg #[.int .i64 (n : Int), .slice A (renL n l tl).length c]) ∧
      w'.ownsRow w.heap.size 72 2 (.slice A (renL n l tl).length c) (renL n l tl).length (cellsE (renL n l tl)) ∧ Below w.heap.size w w' := by
  obtain ⟨A, c, rfl, hc⟩ := h.form
  obtain ⟨A2, c2, rfl, hc2⟩ := hu.form
  have HC := Lib.hid hc
  have HC2 := Lib.hid hc2
  have HG := Lib.hid hg
  have HEA := Lib.hid he
  have HTL : Hid (tl.length = n) := he.1
  have e0 : Below w.heap.size w ((w.alloc (.cells #[.int .i64 (n : Int), .slice A l.length c] 29)).alloc (.cells #[.int .i64 0, .slice none 0 0] 29)) :=
    ((Below.refl _ _).alloc (Nat.le_refl _) _).alloc (by simp) _
  have g0 := (Blk.new w 29 #[.int .i64 (n : Int), .slice A l.length c]).alloc (.cells #[.int .i64 0, .slice none 0 0] 29)
  have r0 := Blk.new (w.alloc (.cells #[.int .i64 (n : Int), .slice A l.length c] 29)) 29 #[.int .i64 0, .slice none 0 0]
  rw [World.size_alloc] at r0
  have M1 := Lib.hid (mid_new (n : Int) r0 e0 (by omega))
  have G1 := Lib.hid ((g0.alloc (.cells #[] 72)).alloc (.cells #[.int .i64 (n : Int), .slice (some ⟨((w.alloc (.cells #[.int .i64 (n : Int), .slice A l.length c] 29)).alloc (.cells #[.int .i64 0, .slice none 0 0] 29)).heap.size, 0, none⟩) 0 0] 29))
  simp only [World.size_alloc] at M1 G1
  clear h hu hc hc2 hg he e0 g0 r0
  go_enter Try.func70, Try.ntmps70
  go_wp2_with fail
  go_loopg [6] l.length (fun g i wr => ∃ (k : Nat) (L : List Ed), k + g = l.length ∧ i = .int .i64 (k : Int) ∧ Hid (RenTo tl l k L) ∧ Mid w wr (w.heap.size + 1) (w.heap.size + 1 + 1 + 1) (n : Int) L ∧ Blk wr w.heap.size 29 #[.int .i64 (n : Int), .slice A l.length c])
  case atStart => exact ⟨0, [], by omega, rfl, RenTo.zero tl l, M1.out, G1.out⟩
  case round =>
    clear M1 G1
    obtain ⟨k, L, hkg, rfl, hren, hmid, hgb⟩ := hrel
    obtain ⟨p0, p1, -, -⟩ := hgb.two
    have hM := Lib.hid hmid
    obtain ⟨A3, c3, bO, hr, bR, hB, h5⟩ := hmid
    obtain ⟨o0, o1, f0, f1⟩ := bO.two
    have hLk := hren.out.1
    cases gk with
    | zero =>
      obtain rfl : k = l.length := by omega
      have HEQ := Lib.hid (RenTo.all HEA.out HG.out hren.out)
      have HD := Lib.hid (Mid.done (n := (n : Int)) hr bR hB h5.1)
      obtain ⟨q0, q1, z0, z1⟩ := bR.two
      clear bO hr bR hB h5 hLk
      go_wp2_with fail
      refine bodyPost_ret (v := .agg #[.int .i64 (n : Int), .slice A3 L.length c3]) (by simp [results, Try.results70, go_sem, q0, q1]) rfl ?_
      rw [← HEQ.out]
      exact ⟨A3, c3, rfl, HD.out.1, HD.out.2⟩
    | succ g2 =>
      have hlt : k < l.length := by omega
      have hlt' : (k : Int) < (l.length : Int) := by omega
      obtain ⟨d, hd⟩ : ∃ d, l[k]? = some d := ⟨_, List.getElem?_eq_getElem hlt⟩
      obtain ⟨g, o, rfl, d0, d1⟩ := HC.out k d hd
      have hdm := HG.out.mem (List.mem_of_getElem? hd)
      have htl := HTL.out
      have ha := at_mem HEA.out (x := d.1) (by omega) (by omega)
      have hb := at_mem HEA.out (x := d.2) (by omega) (by omega)
      obtain ⟨g', o', rfl, t0⟩ := HC2.out _ _ ha.1
      obtain ⟨g'', o'', e', t1⟩ := HC2.out _ _ hb.1
      obtain ⟨rfl, rfl⟩ : g' = g'' ∧ o' = o'' := by simpa using e'
      have HSU := Lib.hid (fun L' (hp : PutIs L (renE tl d) L') => RenTo.succ HEA.out HG.out hd hren.out hp)
      have HRE : Hid (renE tl d = (min (atI tl d.1) (atI tl d.2), max (atI tl d.1) (atI tl d.2))) := rfl
      obtain ⟨a, b⟩ := d
      simp only at hdm d0 d1 t0 t1 HRE
      obtain ⟨x, rfl⟩ : ∃ x : Nat, a = (x : Int) := ⟨a.toNat, by omega⟩
      obtain ⟨y, rfl⟩ : ∃ y : Nat, b = (y : Int) := ⟨b.toNat, by omega⟩
      simp only [Int.toNat_natCast] at t0 t1
      have q0 := nearv.cell_keep d0 hB
      have q1 := nearv.cell_keep d1 hB
      have q2 := nearv.cell_keep t0 hB
      have q3 := nearv.cell_keep t1 hB
      have hx1 : (x : Int) < (tl.length : Int) := by omega
      have hy1 : (y : Int) < (tl.length : Int) := by omega
      have hx0 : (0 : Int) ≤ (x : Int) := by omega
      have hy0 : (0 : Int) ≤ (y : Int) := by omega
      have EL : Edges wr (.slice A3 L.length c3) L := Reads.of_own hr
      have HE := Lib.hid EL
      have hLl : L.length ≤ 1048576 := by omega
      have KK := Lib.hid (fun nq => (⟨hM.out.call (below_drewN (Below.refl _ _) nq), hgb.drewN nq⟩ : mids.Mid w (wr.drewN nq) (w.heap.size + 1) (w.heap.size + 1 + 1 + 1) (n : Int) L ∧ Blk (wr.drewN nq) w.heap.size 29 #[.int .i64 (n : Int), .slice (some ⟨g, o, none⟩) l.length c]))
      clear hd ha hb d0 d1 t0 t1 e' hdm hr bR hB EL bO hgb hM HE h5 hLk htl
      go_wp2_with fail
      go_quiet (fail)
      go_wp2_with fail
      clear p0 p1 q0 q1 q2 q3 o0 o1 f0 f1
      obtain ⟨hM, hgb⟩ := KK.out nq
      clear KK
      generalize wr.drewN nq = w5 at *
      have HM5 := Lib.hid hM
      obtain ⟨A3, c3, bO, hr, bR, hB, h5⟩ := hM
      obtain ⟨o0, o1, f0, f1⟩ := bO.two
      have HPU := Lib.hid (l2Put_any (.slice A3 L.length c3) L (min (atI tl x) (atI tl y)) (max (atI tl x) (atI tl y)) w5.drew ((Reads.of_own hr).below (Below.refl _ _).drew) hLl)
      have HGB := Lib.hid hgb
      have hsO := bO.lt
      have hsz := hB.size
      clear hr bR hB bO hgb h5
      go_wp2_with fail
      go_region_law
        (first
        | (go_simp; go_at_call 62; refine (l1Least_any _ _ _).mono ?_; rintro e w2 ⟨rfl, rfl⟩)
        | (go_simp; go_at_call 63; refine (l1Most_any _ _ _).mono ?_; rintro e w2 ⟨rfl, rfl⟩)
        | (go_simp; go_at_call 64; refine HPU.out.mono ?_; rintro e w3 ⟨L2, A4, c4, rfl, hp, o4, b4⟩; have d4 : Below w5.heap.size w5 w3 := (Below.refl _ _).drew.trans b4; have hM3 := HM5.out.call d4; obtain ⟨A5, c5, bO3, -⟩ := hM3; obtain ⟨k0, k1, k2, k3⟩ := bO3.two))
      all_goals (go_wp2_with fail)
      all_goals
        go_roundg g2
        case measure => omega
        case rel => exact ⟨k + 1, L2, by omega, by go_num, Lib.hid (HSU.out L2 (by rw [HRE.out]; exact hp)), Mid.take (HM5.out.call d4) (own_base o4 hsz), (HGB.out.below d4 HGB.out.lt).far (by show w.heap.size ≠ w.heap.size + 1 + 1 + 1; omega) _⟩
set_option maxHeartbeats 1000000 in
set_option maxRecDepth 100000 in
theorem specRen_any (s : Int) (v u : Value) (l : List Ed) (tl : List Int) (w : World) (h : Edges w v l) (hl : l.length ≤ 1048576) (hu : Ints w u tl) (htl : tl.length ≤ 1048576) (hs1 : -9223372036854775808 ≤ s) (hs2 : s ≤ 9223372036854775807) :
    Calls Try.prog 34 #[.agg #[.int .i64 s, v], u] w (RetG w (RenOk s l tl) s (renL s.toNat l tl)) := by
  obtain ⟨A, c, rfl, -⟩ := h.form
  obtain ⟨A2, c2, rfl, -⟩ := hu.form
  have H := Lib.hid h
  have HU := Lib.hid hu
  have b0 : Below w.heap.size w ((w.alloc (.cells #[.int .i64 s, .slice A l.length c] 29)).alloc (.cells #[.int .i64 0, .slice none 0 0] 29)) :=
    ((Below.refl _ _).alloc (Nat.le_refl _) _).alloc (by simp) _
  have g0 := (Blk.new w 29 #[.int .i64 s, .slice A l.length c]).alloc (.cells #[.int .i64 0, .slice none 0 0] 29)
  have r0 := Blk.new (w.alloc (.cells #[.int .i64 s, .slice A l.length c] 29)) 29 #[.int .i64 0, .slice none 0 0]
  rw [World.size_alloc] at r0
  have HG := Lib.hid (l2Good_any s _ l _ (h.below b0) hl hs1 hs2)
  clear h hu
  by_cases hgd : P2.Good s l
  · rw [goodB_yes hgd] at HG
    have hs0 := hgd.1
    have hs8 := hgd.2.1
    obtain ⟨n, hn⟩ : ∃ n : Nat, s = (n : Int) := ⟨s.toNat, by omega⟩
    subst hn
    have hn8 : n ≤ 8 := by omega
    rw [Int.toNat_natCast]
    have HGD := Lib.hid hgd
    clear hgd
    go_enter Try.func34, Try.ntmps34
    go_wp2_with fail
    refine HG.out.mono ?_
    rintro e w1 ⟨rfl, b1⟩
    have e1 := btrans b0 b1
    have g1 := g0.below b1 g0.lt
    have r1 := r0.below b1 r0.lt
    clear HG b0 b1 g0 r0
    obtain ⟨p0, p1, -, -⟩ := g1.two
    have HE := Lib.hid (l2Each_any n (.slice A l.length c) (.slice A2 tl.length c2) l tl w1 (H.out.below e1) (HU.out.below e1) htl hn8)
    go_wp2_with fail
    by_cases he : EachS n tl
    · have hg : RenOk (n : Int) l tl := ⟨HGD.out, by rw [Int.toNat_natCast]; exact he⟩
      rw [okG_yes he] at HE
      have HOK := Lib.hid hg
      have HEA := Lib.hid he
      clear hg he
      refine HE.out.mono ?_
      rintro e w2 ⟨rfl, b2⟩
      have e2 := btrans e1 b2
      have g2 := g1.below b2 g1.lt
      have r2 := r1.below b2 r1.lt
      clear e1 g1 r1 b2 p0 p1 HE
      obtain ⟨p0, p1, -, -⟩ := g2.two
      go_wp2_with fail
      refine (l2Ren_any n (.slice A l.length c) (.slice A2 tl.length c2) l tl w2 (H.out.below e2) hl (HU.out.below e2) HGD.out HEA.out hn8).mono ?_
      rintro e w3 ⟨A3, c3, rfl, o3, b3⟩
      have e3 := btrans e2 b3
      have r3 := r2.below b3 r2.lt
      have HD := Lib.hid (Mid.done (n := (n : Int)) (own_base o3 e2.size) r3 e3 (by omega))
      obtain ⟨q0, q1, z0, z1⟩ := r3.two
      clear o3 b3 r3 r2 g2 p0 p1
      go_wp2_with fail
      refine bodyPost_ret (v := .tuple #[.agg #[.int .i64 ((n : Int)), .slice A3 (renL n l tl).length c3], .bool true]) (by simp [results, Try.results34, go_sem, q0, q1]) rfl (RetG.yes HOK.out HD.out.1 HD.out.2)
    · have hg : ¬ RenOk (n : Int) l tl := fun hh => he (by have := hh.2; rwa [Int.toNat_natCast] at this)
      rw [okG_no he] at HE
      have HN := Lib.hid hg
      clear hg he
      refine HE.out.mono ?_
      rintro e w2 ⟨rfl, b2⟩
      have e2 := btrans e1 b2
      have r2 := r1.below b2 r1.lt
      clear e1 g1 r1 b2 p0 p1 HE
      obtain ⟨q0, q1, z0, z1⟩ := r2.two
      go_wp2_with fail
      refine bodyPost_ret (v := .tuple #[.agg #[.int .i64 0, .slice none 0 0], .bool false]) (by simp [results, Try.results34, go_sem, q0, q1]) rfl (RetG.no HN.out (by have hz_ := (e2).size; have hb_ := e2; go_grown))
  · rw [goodB_no hgd] at HG
    have HN : Hid (¬ RenOk s l tl) := fun h => hgd h.1
    clear hgd
    go_enter Try.func34, Try.ntmps34
    go_wp2_with fail
    refine HG.out.mono ?_
    rintro e w1 ⟨rfl, b1⟩
    have e1 := btrans b0 b1
    have r1 := r0.below b1 r0.lt
    obtain ⟨q0, q1, z0, z1⟩ := r1.two
    clear HG b0 b1 g0 r0 r1
    go_wp2_with fail
    refine bodyPost_ret (v := .tuple #[.agg #[.int .i64 0, .slice none 0 0], .bool false]) (by simp [results, Try.results34, go_sem, q0, q1]) rfl (RetG.no HN.out (by have hz_ := (e1).size; have hb_ := e1; go_grown))
end Go.Proofs.Ytcnfeijniidclaa.rens
