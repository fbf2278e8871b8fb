/- The contracts of FillingOf: of the program and of the model. -/
import Derived.Handy
import Derived.Test.YtgbdgenlmmofeaaFillM
import Derived.Test.YtgbdgenlmmofeaaElim
import Derived.Test.YtgbdgenlmmofeaaIdx
import Derived.Deep.DeepCutAuto
import Derived.Deep.RegionHeld3
import Derived.Deep.RegionHeldLaw
namespace Go.Proofs.Ytgbdgenlmmofeaa.bags
open Go.RowKit P2 words edges ints good adjs fns gws sets rets mids covs reach each bitsI grid gridr idx put minmax
set_option linter.unusedVariables false

set_option maxHeartbeats 1000000 in
set_option maxRecDepth 100000 in
theorem togClo_any (x y : Int) (bx b_y : Nat) (u : Value) (bag : List Int) (w : World) (hu : Ints w u bag) (hul : bag.length ≤ 1048576) (h1 : w.cell? ⟨bx, 0, none⟩ = some (.int .i64 x)) (h2 : w.cell? ⟨b_y, 0, none⟩ = some (.int .i64 y)) :
    Calls Try.prog 103 #[u, .pointer (some ⟨bx, 0, none⟩), .pointer (some ⟨b_y, 0, none⟩)] w fun e w' => e = .returned (.bool (decide (x ∈ bag) && decide (y ∈ bag))) ∧ Below w.heap.size w w' := by
  have HX := Lib.hid (fun (W : World) (hW : Below w.heap.size w W) => contains_any u bag x W (hu.below hW) hul)
  have HY := Lib.hid (fun (W : World) (hW : Below w.heap.size w W) => contains_any u bag y W (hu.below hW) hul)
  clear hu
  cases hx : decide (x ∈ bag) with
  | false =>
    rw [hx] at HX
    clear hx HY
    go_enter Try.func103, Try.ntmps103
    go_wp2_with fail
    refine (HX.out _ (Below.refl _ _)).mono ?_
    rintro e w' ⟨rfl, rfl⟩
    go_wp2_with fail
    go_ret
    exact ⟨rfl, Below.refl _ _⟩
  | true =>
    rw [hx] at HX
    clear hx
    go_enter Try.func103, Try.ntmps103
    go_wp2_with fail
    refine (HX.out _ (Below.refl _ _)).mono ?_
    rintro e w' ⟨rfl, rfl⟩
    go_wp2_with fail
    refine (HY.out _ (Below.refl _ _)).mono ?_
    rintro e w' ⟨rfl, rfl⟩
    go_wp2_with fail
    go_ret
    exact ⟨rfl, Below.refl _ _⟩
theorem together_any (x y : Int) (u : Value) (us : List Value) (rows : List (List Int)) (w : World) (h : ReadsG w u us rows) (hn : rows.length ≤ 1048576) (hr : ∀ r ∈ rows, r.length ≤ 1048576) :
    Calls Try.prog 74 #[u, .int .i64 x, .int .i64 y] w fun e w' => e = .returned (.bool (rows.any fun bag => decide (x ∈ bag) && decide (y ∈ bag))) ∧ Below w.heap.size w w' := by
  have hmf : ∀ (fn : Fn) (first cap : Array Value) (w : World), (Instr.makeFunc fn first cap).run Try.prog w = .ok (.func fn first cap) w := fun _ _ _ _ => rfl
  have b0 : Below w.heap.size w ((w.alloc (.cells #[.int .i64 x] 3)).alloc (.cells #[.int .i64 y] 3)) := ((Below.refl _ _).alloc (Nat.le_refl _) _).alloc (by simp) _
  have gx := (Blk.new w 3 #[.int .i64 x]).alloc (.cells #[.int .i64 y] 3)
  have gy := Blk.new (w.alloc (.cells #[.int .i64 x] 3)) 3 #[.int .i64 y]
  rw [World.size_alloc] at gy
  have F : Hid (FnG ((w.alloc (.cells #[.int .i64 x] 3)).alloc (.cells #[.int .i64 y] 3)) 103 #[.pointer (some ⟨w.heap.size, 0, none⟩), .pointer (some ⟨w.heap.size + 1, 0, none⟩)] us rows (fun bag => decide (x ∈ bag) && decide (y ∈ bag))) :=
    { enter := fun _ _ => by kernel_rfl
      call := fun W hb k u r hu hrr => togClo_any x y _ _ u r W ((h.below (btrans b0 hb)).2.2 k u r hu hrr) (hr r (List.mem_of_getElem? hrr)) ((gx.below hb gx.lt).cell 0) ((gy.below hb gy.lt).cell 0) }
  have HC := Lib.hid (containsFuncG_any u us rows _ _ _ _ (h.below b0) hn F.out)
  obtain ⟨A, c, rfl, -⟩ := h.1
  clear h gx gy F
  go_enter Try.func74, Try.ntmps74
  go_wp2_with fail
  refine HC.out.mono ?_
  rintro e w1 ⟨rfl, b1⟩
  go_wp2_with fail
  go_ret
  exact ⟨rfl, btrans b0 b1⟩
theorem bagsK_rows {n : Nat} {l : List Ed} {tl : List Int} {k : Nat} : ∀ r ∈ bagsK n l tl k, r.length ≤ n := fun r hr => by
  obtain ⟨j, _, rfl⟩ := List.mem_map.1 hr
  exact nw_len _ _
noncomputable def fillL (n : Nat) (l : List Ed) (tl : List Int) : List Ed := gw n (fillJ n l tl)
theorem fillClo_any (n : Nat) (l : List Ed) (tl : List Int) (x y : Nat) (bu : Nat) (u : Value) (us : List Value) (w : World) (h : ReadsG w u us (bagsK n l tl n)) (hn : n ≤ 8) (h1 : w.cell? ⟨bu, 0, none⟩ = some u) :
    Calls Try.prog 73 #[.int .i64 (x : Int), .int .i64 (y : Int), .pointer (some ⟨bu, 0, none⟩)] w fun e w' => e = .returned (.bool (fillJ n l tl x y)) ∧ Below w.heap.size w w' := by
  have HT := Lib.hid (together_any (x : Int) (y : Int) u us (bagsK n l tl n) w h (by rw [bagsK_len]; omega) (fun r hr => by have := bagsK_rows r hr; omega))
  clear h
  go_enter Try.func73, Try.ntmps73
  go_wp2_with fail
  refine HT.out.mono ?_
  rintro e w1 ⟨rfl, b1⟩
  go_wp2_with fail
  go_ret
  exact ⟨rfl, b1⟩
set_option maxHeartbeats 2000000 in
set_option maxRecDepth 100000 in
theorem implFill_any (s : Int) (v u : Value) (l : List Ed) (tl : List Int) (w : World) (h : Edges w v l) (hl : l.length ≤ 1048576) (hu : Ints w u tl) (htl : tl.length ≤ 1048576) :
    Calls Try.prog 33 #[.agg #[.int .i64 s, v], u] w (RetG w (ElimOk s l tl) s (fillL s.toNat l tl)) := by
  obtain ⟨A, c, rfl, -⟩ := h.form
  have H := Lib.hid h
  have HU := Lib.hid hu
  have hmf : ∀ (fn : Fn) (first cap : Array Value) (w : World), (Instr.makeFunc fn first cap).run Try.prog w = .ok (.func fn first cap) w := fun _ _ _ _ => rfl
  have b0 : Below w.heap.size w ((w.alloc (.cells #[.int .i64 s, .slice A l.length c] 29)).alloc (.cells #[.int .i64 0, .slice none 0 0] 29)) :=
    ((Below.refl _ _).alloc (Nat.le_refl _) _).alloc (by simp) _
  have g0 := (Blk.new w 29 #[.int .i64 s, .slice A l.length c]).alloc (.cells #[.int .i64 0, .slice none 0 0] 29)
  have r0 := Blk.new (w.alloc (.cells #[.int .i64 s, .slice A l.length c] 29)) 29 #[.int .i64 0, .slice none 0 0]
  rw [World.size_alloc] at r0
  have HO := Lib.hid (hasOrder_any s _ u l tl _ (h.below b0) hl (hu.below b0) htl)
  clear h hu
  by_cases hok : ElimOk s l tl
  · rw [okG_yes (show P2.Good s l ∧ EachS s.toNat tl from hok)] at HO
    have h0 := hok.1.1
    have h8 := hok.1.2.1
    obtain ⟨n, hn⟩ : ∃ n : Nat, s = (n : Int) := ⟨s.toNat, by omega⟩
    subst hn
    have HOK := Lib.hid hok
    have hn8 : n ≤ 8 := by omega
    clear hok
    go_enter Try.func33, Try.ntmps33
    go_wp2_with fail
    refine HO.out.mono ?_
    rintro e w1 ⟨rfl, b1⟩
    have e1 := btrans b0 b1
    have g1 := g0.below b1 g0.lt
    have r1 := r0.below b1 r0.lt
    obtain ⟨p0, p1, -, -⟩ := g1.two
    clear HO b0 b1 g0 r0
    go_wp2_with fail
    refine (bagsOf_any n (.slice A l.length c) u l tl w1 (H.out.below e1) hl (HU.out.below e1) HOK.out.1 (by have := HOK.out.2; rwa [Int.toNat_natCast] at this)).mono ?_
    rintro e w2 ⟨A2, c2, us, rfl, o2, b2⟩
    have e2 := btrans e1 b2
    have g2 := g1.below b2 g1.lt
    have r2 := r1.below b2 r1.lt
    clear g1 r1 p0 p1 b2
    obtain ⟨p0, p1, -, -⟩ := g2.two
    have bv := (Below.refl w2.heap.size w2).alloc (Nat.le_refl _) (.cells #[.slice A2 (bagsK n l tl n).length c2] 36)
    have gv := Blk.new w2 36 #[.slice A2 (bagsK n l tl n).length c2]
    have F : Hid (Fn2 (w2.alloc (.cells #[.slice A2 (bagsK n l tl n).length c2] 36)) 73 #[.pointer (some ⟨w2.heap.size, 0, none⟩)] n (fillJ n l tl)) :=
      { enter := fun _ _ => by kernel_rfl
        call := fun W hb x y _ _ => fillClo_any n l tl x y _ _ us W ((gridl.readsG_of_own o2).below (btrans bv hb)) hn8 ((gv.below hb gv.lt).cell 0) }
    have hs2 := g2.lt
    have hbl := Lib.hid (bagsK_len n l tl n)
    clear o2 gv bv
    go_wp2_with fail
    refine (graphWhere_any n 73 _ _ _ hn8 F.out).mono ?_
    rintro e w3 ⟨A3, c3, rfl, o3, b3⟩
    have r3 := (r2.alloc (.cells #[.slice A2 (bagsK n l tl n).length c2] 36)).below b3 (r2.alloc _).lt
    have HD := Lib.hid (Mid.done (n := (n : Int)) (own_base o3 (by rw [World.size_alloc]; omega)) r3 (btrans (e2.alloc e2.size _) b3) (by omega))
    obtain ⟨q0, q1, z0, z1⟩ := r3.two
    clear o3 b3 r3 r2 g2 p0 p1 F
    go_wp2_with fail
    refine bodyPost_ret (v := .tuple #[.agg #[.int .i64 (n : Int), .slice A3 (gw n (fillJ n l tl)).length c3], .bool true]) (by simp [results, Try.results33, go_sem, q0, q1]) rfl (RetG.yes (l := fillL (n : Int).toNat l tl) HOK.out HD.out.1 HD.out.2)
  · rw [okG_no (show ¬ (P2.Good s l ∧ EachS s.toNat tl) from hok)] at HO
    have HN := Lib.hid hok
    clear hok
    go_enter Try.func33, Try.ntmps33
    go_wp2_with fail
    refine HO.out.mono ?_
    rintro e w1 ⟨rfl, b1⟩
    have e1 := btrans b0 b1
    have r1 := r0.below b1 r0.lt
    obtain ⟨q0, q1, z0, z1⟩ := r1.two
    clear HO b0 b1 g0 r0 r1
    go_wp2_with fail
    refine bodyPost_ret (v := .tuple #[.agg #[.int .i64 0, .slice none 0 0], .bool false]) (by simp [results, Try.results33, go_sem, q0, q1]) rfl (RetG.no HN.out ?_)
    first | exact e1 | exact (e1.setCell (by simp) _).setCell (by simp) _
/-- a new row into the Graph in the making -/
theorem mid_take {w wr : World} {R O : Nat} {n : Int} {l L : List Ed} {A : Option Addr} {c : Nat} (h : Mid w wr R O n l) (hr : wr.ownsRow w.heap.size 90 2 (.slice A L.length c) L.length (cellsE L)) :
    Mid w (wr.setCell ⟨O, 1, none⟩ (.slice A L.length c)) R O n L := by
  obtain ⟨A0, c0, h1, h2, h3, h4, h5⟩ := h
  have hk : wr.grownBy (wr.setCell ⟨O, 1, none⟩ (.slice A L.length c)) (some O) := ⟨rfl, rfl, rfl, by simp [World.setCell], fun k _ hk => Below.heap_setCell _ _ _ _ (fun e => hk (by simp [e]))⟩
  refine ⟨A, c, ?_, hr.kept hk (.inr (own_ne hr h1 tne)), h3.far h5.2.2 _, h4.setCell h5.2.1 _, h5⟩
  have := h1.set_ 1 (.slice A L.length c)
  simpa using this
theorem own_far {wr : World} {B O n : Nat} {v u : Value} {xs : List Value} {cs : Array Value} (h : wr.ownsRow B 3 1 v n xs) (hO : Blk wr O 29 cs) : (wr.setCell ⟨O, 1, none⟩ u).ownsRow B 3 1 v n xs := by
  have hk : wr.grownBy (wr.setCell ⟨O, 1, none⟩ u) (some O) := ⟨rfl, rfl, rfl, by simp [World.setCell], fun k _ hk => Below.heap_setCell _ _ _ _ (fun e => hk (by simp [e]))⟩
  exact h.kept hk (.inr (own_ne h hO (by decide)))
set_option maxHeartbeats 8000000 in
set_option maxRecDepth 100000 in
theorem l5Filling_any (n : Nat) (v u : Value) (l : List Ed) (tl : List Int) (w : World) (h : Edges w v l) (hl : l.length ≤ 1048576) (hu : Ints w u tl) (hn8 : n ≤ 8) (he : EachS n tl) :
    Calls Try.prog 69 #[.agg #[.int .i64 (n : Int), v], u] w fun e w' => ∃ A c, e = .returned (.agg #[.int .i64 (n : Int), .slice A (fillL n l tl).length c]) ∧
      w'.ownsRow w.heap.size 90 2 (.slice A (fillL n l tl).length c) (fillL n l tl).length (cellsE (fillL n l tl)) ∧ Below w.heap.size w w' := by
  obtain ⟨A, c, rfl, -⟩ := h.form
  obtain ⟨A2, c2, rfl, hc2⟩ := hu.form
  have H := Lib.hid h
  have HU := Lib.hid hu
  have HC2 := Lib.hid hc2
  have HE := Lib.hid he
  have hcap := ints_cap hu
  have HNL := Lib.hid he.1
  have hl8 : tl.length ≤ 8 := by have := he.1; omega
  have e0 : Below w.heap.size w ((w.alloc (.cells #[.int .i64 (n : Int), .slice A l.length c] 29)).alloc (.cells #[.int .i64 0, .slice none 0 0] 29)) :=
    ((Below.refl _ _).alloc (Nat.le_refl _) _).alloc (by simp) _
  have g0 := (Blk.new w 29 #[.int .i64 (n : Int), .slice A l.length c]).alloc (.cells #[.int .i64 0, .slice none 0 0] 29)
  have r0 := Blk.new (w.alloc (.cells #[.int .i64 (n : Int), .slice A l.length c] 29)) 29 #[.int .i64 0, .slice none 0 0]
  rw [World.size_alloc] at r0
  have M1 := Lib.hid (mid_new (n : Int) r0 e0 (by omega))
  have G1 := Lib.hid ((g0.alloc (.cells #[] 90)).alloc (.cells #[.int .i64 (n : Int), .slice (some ⟨((w.alloc (.cells #[.int .i64 (n : Int), .slice A l.length c] 29)).alloc (.cells #[.int .i64 0, .slice none 0 0] 29)).heap.size, 0, none⟩) 0 0] 29))
  simp only [World.size_alloc] at M1 G1
  clear h hu hc2 he e0 g0 r0
  go_enter Try.func69, Try.ntmps69
  go_wp2_with fail
  go_loopg [6] tl.length (fun g i wr => ∃ (k : Nat) (L : List Ed), k + g = tl.length ∧ i = .int .i64 (k : Int) ∧ Hid (Fill n l tl k 0 L) ∧ Mid w wr (w.heap.size + 1) (w.heap.size + 1 + 1 + 1) (n : Int) L ∧ Blk wr w.heap.size 29 #[.int .i64 (n : Int), .slice A l.length c])
  case atStart => exact ⟨0, [], by omega, rfl, Fill.start, M1.out, G1.out⟩
  case round =>
    clear M1 G1
    obtain ⟨k, L, hkg, rfl, hfil, hmid, hgb⟩ := hrel
    have hM := Lib.hid hmid
    obtain ⟨A3, c3, bO, hr, bR, hB, h5⟩ := hmid
    cases gk with
    | zero =>
      obtain rfl : k = tl.length := by omega
      have HEQ : Hid (L = fillL n l tl) := by
        have h_ := hfil.out
        rw [HNL.out] at h_
        exact h_.all HE.out
      have HD := Lib.hid (Mid.done (n := (n : Int)) hr bR hB h5.1)
      obtain ⟨q0, q1, z0, z1⟩ := bR.two
      obtain ⟨o0, o1, f0, f1⟩ := bO.two
      clear bO hr bR hB h5 hgb
      go_wp2_with fail
      refine bodyPost_ret (v := .agg #[.int .i64 (n : Int), .slice A3 L.length c3]) (by simp [results, Try.results69, go_sem, q0, q1]) rfl ?_
      rw [← HEQ.out]
      exact ⟨A3, c3, rfl, HD.out.1, HD.out.2⟩
    | succ g2 =>
      have hlt : k < tl.length := by omega
      have hlt' : (k : Int) < (tl.length : Int) := by omega
      obtain ⟨x, hx⟩ : ∃ x, tl[k]? = some x := ⟨_, List.getElem?_eq_getElem hlt⟩
      have hxr := HE.out.range x (List.mem_of_getElem? hx)
      obtain ⟨m, rfl⟩ : ∃ m : Nat, x = (m : Int) := ⟨x.toNat, by omega⟩
      have hmn : m < n := by omega
      obtain ⟨ga, oa, rfl, c0⟩ := HC2.out k _ hx
      have q0 := nearv.cell_keep c0 hB
      obtain ⟨p0, p1, -, -⟩ := hgb.two
      have hkc : k ≤ c2 := by omega
      have hkc' : (k : Int) ≤ (c2 : Int) := by omega
      have hLL : (tl.take k).length ≤ 1048576 := by rw [List.length_take]; omega
      have HLA := Lib.hid (l5Later_any n m (tl.take k) (.slice A l.length c) _ l wr.drew (H.out.below hB.drew) hl (ints_take (HU.out.below hB.drew) (by omega) hkc) hLL hn8 hmn)
      have hLT : nw (laterB n l (goneB (tl.take k)) m) n = laterT n l tl k := by unfold laterT; rw [getD_at hx]
      rw [hLT] at HLA
      have hll : (laterT n l tl k).length ≤ n := nw_len _ _
      have HGB := Lib.hid hgb
      have HB := Lib.hid hB
      have HX := Lib.hid hx
      have HC0 := Lib.hid c0
      have HM3 := Lib.hid hM.out
      generalize hLK : laterT n l tl k = lk at *
      have HLK := Lib.hid hLK
      clear hx c0 hgb hB hLT hLL bO hr bR h5 hLK hM
      go_wp2_with fail
      go_still_tail 8, (by kernel_rfl)
      change wpList _ _ _ _ _ wr.drew
      go_wp2_with fail
      refine HLA.out.mono ?_
      rintro e w3 ⟨A5, c5, rfl, r5, b5⟩
      have d5 : Below wr.heap.size wr w3 := (Below.refl _ _).drew.trans b5
      have HG3 := Lib.hid (HGB.out.below d5 HGB.out.lt)
      have HM5 := Lib.hid (HM3.out.call d5)
      have HR5 : Hid (w3.ownsRow w.heap.size 3 1 (.slice A5 lk.length c5) lk.length (cellsI lk)) := own_base r5 HB.out.size
      clear r5 b5 d5 p0 p1 q0
      go_wp2_with fail
      go_loopg [8] lk.length (fun g jv wi => ∃ (j : Nat) (L : List Ed), j + g = lk.length ∧ jv = .int .i64 (j : Int) ∧ Hid (Fill n l tl k j L) ∧ Mid w wi (w.heap.size + 1) (w.heap.size + 1 + 1 + 1) (n : Int) L ∧
        wi.ownsRow w.heap.size 3 1 (.slice A5 lk.length c5) lk.length (cellsI lk) ∧ Blk wi w.heap.size 29 #[.int .i64 (n : Int), .slice A l.length c])
      case atStart => exact ⟨0, L, by omega, rfl, hfil, HM5.out, HR5.out, HG3.out⟩
      case round =>
        clear HG3 HM5 HR5 hfil
        obtain ⟨j, L, hjg, rfl, hfil, hmid, hr5, hgb⟩ := hrel
        have hM := Lib.hid hmid
        have hLl0 := hfil.out.len HE.out hn8
        obtain ⟨A3, c3, bO, hr, bR, hB, h5⟩ := hmid
        cases gk with
        | zero =>
          obtain rfl : j = lk.length := by omega
          have HN : Hid (Fill n l tl (k + 1) 0 L) := by
            have h_ := hfil.out
            rw [← HLK.out] at h_
            exact h_.next
          have HGB2 := Lib.hid hgb
          clear bO hr bR hB h5 hr5 hgb
          go_wp2_with fail
          go_roundg g2
          case measure => omega
          case rel => exact ⟨k + 1, L, by omega, by go_num, HN, hM.out, HGB2.out⟩
        | succ g4 =>
          have hjt' : (j : Int) < (lk.length : Int) := by omega
          obtain ⟨yv, hyv⟩ : ∃ yv, lk[j]? = some yv := ⟨_, List.getElem?_eq_getElem (by omega)⟩
          have HPT := Lib.hid (fun L' (hp : PutIs L (min (m : Int) yv, max (m : Int) yv) L') => hfil.out.put HE.out HX.out (by rw [HLK.out]; exact hyv) hp)
          obtain ⟨_, _, hf, hcc⟩ := (show Ints wr (.slice A5 lk.length c5) lk from Reads.of_own hr5).form
          cases hf
          obtain ⟨g6, o6, rfl, q6⟩ := hcc j _ hyv
          have q0 := nearv.cell_keep HC0.out hB
          obtain ⟨o0, o1, f0, f1⟩ := bO.two
          have hLl : L.length ≤ 1048576 := by omega
          have HPU := Lib.hid (l2Put_any (.slice A3 L.length c3) L (min (m : Int) yv) (max (m : Int) yv) wr.drew ((Reads.of_own hr).below (Below.refl _ _).drew) hLl)
          have hwr := hB.size
          have HMM := Lib.hid hM.out
          have HR5 := Lib.hid hr5
          have HGB := Lib.hid hgb
          clear hyv hcc hr bR hB bO hgb h5 hLl hr5 hM
          go_wp2_with fail
          go_still_tail 21, (by kernel_rfl)
          still_call ((l1Least_any _ _ _).mono fun _ _ ⟨he, hw⟩ => ⟨he, hw.symm⟩)
          repeat still_step
          still_call ((l1Most_any _ _ _).mono fun _ _ ⟨he, hw⟩ => ⟨he, hw.symm⟩)
          repeat still_step
          refine wpStill_nil ?_
          change wpList _ _ _ _ _ wr.drew
          go_wp2_with fail
          refine HPU.out.mono ?_
          rintro e w3 ⟨L2, A4, c4, rfl, hp, o4, b4⟩
          have d4 : Below wr.heap.size wr w3 := (Below.refl _ _).drew.trans b4
          have hM3 := HMM.out.call d4
          obtain ⟨A5_, c5_, bO3, -⟩ := hM3
          obtain ⟨k0, k1, k2, k3⟩ := bO3.two
          go_wp2_with fail
          go_roundg g4
          case measure => omega
          case rel => exact ⟨j + 1, L2, by omega, by go_num, Lib.hid (HPT.out L2 hp), mid_take (HMM.out.call d4) (own_base o4 hwr), own_far (own_below HR5.out d4) bO3, (HGB.out.below d4 HGB.out.lt).far (by show w.heap.size ≠ w.heap.size + 1 + 1 + 1; omega) _⟩
set_option maxHeartbeats 2000000 in
set_option maxRecDepth 100000 in
theorem specFill_any (s : Int) (v u : Value) (l : List Ed) (tl : List Int) (w : World) (h : Edges w v l) (hl : l.length ≤ 1048576) (hu : Ints w u tl) (htl : tl.length ≤ 1048576) (hs1 : -9223372036854775808 ≤ s) (hs2 : s ≤ 9223372036854775807) :
    Calls Try.prog 32 #[.agg #[.int .i64 s, v], u] w (RetG w (ElimOk s l tl) s (fillL s.toNat l tl)) := by
  obtain ⟨A, c, rfl, -⟩ := h.form
  have H := Lib.hid h
  have HU := Lib.hid hu
  have b0 : Below w.heap.size w ((w.alloc (.cells #[.int .i64 s, .slice A l.length c] 29)).alloc (.cells #[.int .i64 0, .slice none 0 0] 29)) :=
    ((Below.refl _ _).alloc (Nat.le_refl _) _).alloc (by simp) _
  have g0 := (Blk.new w 29 #[.int .i64 s, .slice A l.length c]).alloc (.cells #[.int .i64 0, .slice none 0 0] 29)
  have r0 := Blk.new (w.alloc (.cells #[.int .i64 s, .slice A l.length c] 29)) 29 #[.int .i64 0, .slice none 0 0]
  rw [World.size_alloc] at r0
  have HO := Lib.hid (l5Order_any s _ u l tl _ (h.below b0) hl (hu.below b0) htl hs1 hs2)
  clear h hu
  by_cases hok : ElimOk s l tl
  · rw [okG_yes hok] at HO
    have h0 := hok.1.1
    have h8 := hok.1.2.1
    obtain ⟨n, hn⟩ : ∃ n : Nat, s = (n : Int) := ⟨s.toNat, by omega⟩
    subst hn
    have HOK := Lib.hid hok
    have hn8 : n ≤ 8 := by omega
    clear hok
    go_enter Try.func32, Try.ntmps32
    go_wp2_with fail
    refine HO.out.mono ?_
    rintro e w1 ⟨rfl, b1⟩
    have e1 := btrans b0 b1
    have g1 := g0.below b1 g0.lt
    have r1 := r0.below b1 r0.lt
    obtain ⟨p0, p1, -, -⟩ := g1.two
    clear HO b0 b1 g0 r0
    go_wp2_with fail
    refine (l5Filling_any n (.slice A l.length c) u l tl w1 (H.out.below e1) hl (HU.out.below e1) hn8 (by have := HOK.out.2; rwa [Int.toNat_natCast] at this)).mono ?_
    rintro e w3 ⟨A3, c3, rfl, o3, b3⟩
    have r3 := r1.below b3 r1.lt
    have HD := Lib.hid (Mid.done (n := (n : Int)) (own_base o3 e1.size) r3 (btrans e1 b3) (by omega))
    obtain ⟨q0, q1, z0, z1⟩ := r3.two
    clear o3 b3 r3 r1 g1 p0 p1
    go_wp2_with fail
    refine bodyPost_ret (v := .tuple #[.agg #[.int .i64 (n : Int), .slice A3 (fillL n l tl).length c3], .bool true]) (by simp [results, Try.results32, go_sem, q0, q1]) rfl (RetG.yes (l := fillL (n : Int).toNat l tl) HOK.out HD.out.1 HD.out.2)
  · rw [okG_no hok] at HO
    have HN := Lib.hid hok
    clear hok
    go_enter Try.func32, Try.ntmps32
    go_wp2_with fail
    refine HO.out.mono ?_
    rintro e w1 ⟨rfl, b1⟩
    have e1 := btrans b0 b1
    have r1 := r0.below b1 r0.lt
    obtain ⟨q0, q1, z0, z1⟩ := r1.two
    clear HO b0 b1 g0 r0 r1
    go_wp2_with fail
    refine bodyPost_ret (v := .tuple #[.agg #[.int .i64 0, .slice none 0 0], .bool false]) (by simp [results, Try.results32, go_sem, q0, q1]) rfl (RetG.no HN.out ?_)
    first | exact e1 | exact (e1.setCell (by simp) _).setCell (by simp) _
theorem fill_len (s : Int) (l : List Ed) (tl : List Int) : (edG (ElimOk s l tl) (fillL s.toNat l tl)).length ≤ 1048576 :=
  edG_len fun h => by
    have := h.1.2.1
    have h1 := h.1.1
    exact nearv.gw_len _ (by omega)
end Go.Proofs.Ytgbdgenlmmofeaa.bags
