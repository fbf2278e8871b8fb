/- The contracts of FirstWay: of the program and of the model. -/
import Derived.Handy
import Derived.Test.YtgbdgenlmmofeaaWayM
import Derived.Test.YtgbdgenlmmofeaaDistO
import Derived.Test.YtgbdgenlmmofeaaNeigh
import Derived.Maps.AppendAt
import Derived.Deep.DeepCutAuto
namespace Go.Proofs.Ytgbdgenlmmofeaa.way
open Go.RowKit P2 words edges ints owns good near adjs fns rets nearv sets grid reps dists distf disto
set_option linter.unusedVariables false

theorem J1_symm (l : List Ed) (a b : Nat) : J1 l a b = J1 l b a := adj_comm l a b
def WayOk (s : Int) (l : List Ed) (x y : Int) : Prop := nodesB s l [x, y] = true ∧ 0 ≤ fn (dist s.toNat (J1 l) x.toNat) y.toNat
noncomputable def wayL (s : Int) (l : List Ed) (x y : Int) : List Int := wayT s.toNat (J1 l) y.toNat x.toNat (fn (dist s.toNat (J1 l) x.toNat) y.toNat).toNat
theorem wayL_len (s : Int) (l : List Ed) (x y : Int) : (inG (WayOk s l x y) (wayL s l x y)).length ≤ 1048576 := inG_len fun h => by
  obtain ⟨hg, hn⟩ := nodesB_iff.1 h.1
  have h1 := hn x (by simp)
  have h2 := hn y (by simp)
  have h8 := hg.2.1
  have := (dist_lt (J1 l) (n := s.toNat) (x := x.toNat) (y := y.toNat) (by omega) (by omega)).2
  unfold wayL
  rw [wayT_len]
  omega
theorem two_nodes {n : Nat} {l : List Ed} {x y : Int} (h : nodesB (n : Int) l [x, y] = true) : P2.Good (n : Int) l ∧ (0 ≤ x ∧ x < n) ∧ (0 ≤ y ∧ y < n) := by
  obtain ⟨hg, hn⟩ := nodesB_iff.1 h
  exact ⟨hg, hn x (by simp), hn y (by simp)⟩
theorem own_two (w : World) (t : TypeId) (x y : Int) : (w.alloc (.cells #[.int .i64 x, .int .i64 y] t)).ownsRow w.heap.size t 1 (.slice (some ⟨w.heap.size, 0, none⟩) 2 2) [x, y].length (cellsI [x, y]) :=
  World.ownsRow_lit (size := 1) w #[.int .i64 x, .int .i64 y] 2 (Nat.le_refl _) (by unfold maxLen; omega) rfl

set_option maxHeartbeats 1000000 in
set_option maxRecDepth 100000 in
theorem wayClo_any (n y a z bn ba bl : Nat) (A : Option Addr) (c : Nat) (l : List Ed) (w : World) (hg : P2.Good (n : Int) l) (h1 : NearV w bn l) (h2 : w.cell? ⟨ba, 0, none⟩ = some (.int .i64 (a : Int)))
    (h3 : w.cell? ⟨bl, 0, none⟩ = some (.slice A n c)) (h4 : Ints w (.slice A n c) (dist n (J1 l) y)) (hn : n ≤ 8) (hy : y < n) (ha : a < n) (hz : z < n) :
    Calls Try.prog 49 #[.int .i64 (z : Int), .pointer (some ⟨bn, 0, none⟩), .pointer (some ⟨ba, 0, none⟩), .pointer (some ⟨bl, 0, none⟩)] w fun e w' => e = .returned (.bool (adj l a z && decide (fn (dist n (J1 l) y) z < fn (dist n (J1 l) y) a))) ∧ Below w.heap.size w w' := by
  obtain ⟨c1, hc, hnr⟩ := h1
  have HN := Lib.hid (fun (nq : Nat) => near_adj (a : Int) (z : Int) (n : Int) c1 l (w.drewN nq) hg hnr (in64_small (by omega) (by omega)) (in64_small (by omega) (by omega)))
  have hdl := dist_len (J1 l) hy
  obtain ⟨A', c', he, hcc⟩ := h4.form
  obtain ⟨rfl, -, rfl⟩ : A = A' ∧ n = (dist n (J1 l) y).length ∧ c = c' := by simpa using he
  obtain ⟨g, o, rfl, r0⟩ := hcc z _ (fn_get (by omega))
  obtain ⟨g', o', he', r1⟩ := hcc a _ (fn_get (by omega))
  obtain ⟨rfl, rfl⟩ : g = g' ∧ o = o' := by simpa using he'
  have hj1 : (z : Int) < (n : Int) := by omega
  have hj2 : (a : Int) < (n : Int) := by omega
  have hj3 : (0 : Int) ≤ (z : Int) := by omega
  have hj4 : (0 : Int) ≤ (a : Int) := by omega
  clear hnr hg h4 hcc he' hdl he
  generalize fn (dist n (J1 l) y) z = dz at *
  generalize fn (dist n (J1 l) y) a = da at *
  cases hj : adj l a z with
  | false =>
    rw [hj] at HN
    clear hj
    go_enter Try.func49, Try.ntmps49
    go_wp2_with fail
    go_quiet ((go_at_call 83; exact quiet_left (HN.out _)))
    go_wp2_with fail
    go_ret
    exact ⟨rfl, below_drewN (Below.refl _ _) _⟩
  | true =>
    rw [hj] at HN
    clear hj
    go_enter Try.func49, Try.ntmps49
    go_wp2_with fail
    go_quiet ((go_at_call 83; exact quiet_left (HN.out _)))
    go_wp2_with fail
    go_ret
    exact ⟨rfl, below_drewN (Below.refl _ _) _⟩
set_option maxHeartbeats 8000000 in
set_option maxRecDepth 100000 in
theorem implWay_any (s x y : Int) (v : Value) (l : List Ed) (w : World) (h : Edges w v l) (hl : l.length ≤ 1048576) :
    Calls Try.prog 14 #[.agg #[.int .i64 s, v], .int .i64 x, .int .i64 y] w (RetI w (WayOk s l x y) (wayL s l x y)) := by
  obtain ⟨A, c, rfl, -⟩ := h.form
  obtain ⟨i0, hi, hz0, hz1, hz2⟩ := info_parts infoInt
  have H := Lib.hid h
  have hmf : ∀ (fn : Fn) (first cap : Array Value) (w : World), (Instr.makeFunc fn first cap).run Try.prog w = .ok (.func fn first cap) w := fun _ _ _ _ => rfl
  have b0 : Below w.heap.size w ((w.alloc (.cells #[.int .i64 s, .slice A l.length c] 29)).alloc (.cells #[.int .i64 x, .int .i64 y] 3)) := ((Below.refl _ _).alloc (Nat.le_refl _) _).alloc (by simp) _
  have g0 := (Blk.new w 29 #[.int .i64 s, .slice A l.length c]).alloc (.cells #[.int .i64 x, .int .i64 y] 3)
  have i1 := Reads.of_own (own_two (w.alloc (.cells #[.int .i64 s, .slice A l.length c] 29)) 3 x y)
  rw [World.size_alloc] at i1
  have HO := Lib.hid (hasNodes_any s (.slice A l.length c) (.slice (some ⟨w.heap.size + 1, 0, none⟩) 2 2) l [x, y] _ (h.below b0) hl i1 (by simp))
  clear h i1
  cases hnb : nodesB s l [x, y] with
  | false =>
    rw [hnb] at HO
    have HNO : Hid (¬ WayOk s l x y) := fun hh => by have := hh.1; rw [hnb] at this; cases this
    clear hnb
    go_enter Try.func14, Try.ntmps14
    go_wp2_with fail
    refine HO.out.mono ?_
    rintro e w1 ⟨rfl, b1⟩
    go_wp2_with fail
    go_ret2
    exact RetI.nil HNO.out (btrans b0 b1)
  | true =>
    rw [hnb] at HO
    obtain ⟨n, rfl⟩ : ∃ n : Nat, s = (n : Int) := ⟨s.toNat, by have := (nodesB_iff.1 hnb).1.1; omega⟩
    obtain ⟨hgd, hx, hy⟩ := two_nodes hnb
    obtain ⟨x, rfl⟩ : ∃ k : Nat, x = (k : Int) := ⟨x.toNat, by omega⟩
    obtain ⟨y, rfl⟩ : ∃ k : Nat, y = (k : Int) := ⟨y.toNat, by omega⟩
    have hn8 : n ≤ 8 := by have := hgd.2.1; omega
    have hxn : x < n := by omega
    have hyn : y < n := by omega
    have HGD := Lib.hid hgd
    have HNB := Lib.hid hnb
    clear hgd hx hy hnb
    go_enter Try.func14, Try.ntmps14
    go_wp2_with fail
    refine HO.out.mono ?_
    rintro e w1 ⟨rfl, b1⟩
    have e1 := btrans b0 b1
    have g1 := g0.below b1 g0.lt
    clear HO b0 b1 g0
    obtain ⟨p0, p1, -, -⟩ := g1.two
    go_wp2_with fail
    refine (neighborTest_any (n : Int) (.slice A l.length c) l w1 (H.out.below e1) hl (good64 HGD.out)).mono ?_
    rintro e w2 ⟨cn, rfl, n2, b2⟩
    have e2 := btrans e1 b2
    have g2 := g1.below b2 g1.lt
    clear g1 e1 b2 p0 p1
    have hz1 := e2.size
    have n3 := NearV.new (t := 62) n2
    have n3' := n2.below ((Below.refl w2.heap.size w2).alloc (Nat.le_refl _) (.cells #[.func (.func 83) #[] #[.pointer (some ⟨cn, 0, none⟩)]] 62))
    have g3 := g2.alloc (.cells #[.func (.func 83) #[] #[.pointer (some ⟨cn, 0, none⟩)]] 62)
    have e3 : Below w.heap.size w (w2.alloc (.cells #[.func (.func 83) #[] #[.pointer (some ⟨cn, 0, none⟩)]] 62)) := e2.alloc hz1 _
    obtain ⟨p0, p1, -, -⟩ := g3.two
    have HDF := Lib.hid (distF_any n y cn l _ HGD.out n3' hyn)
    clear g2 n2 e2 n3'
    go_wp2_with fail
    refine HDF.out.mono ?_
    rintro e w4 ⟨A4, c4, rfl, o4, b4⟩
    clear HDF p0 p1
    have hdl := dist_len (J1 l) hyn
    rw [show dist n (J0 l) y = dist n (J1 l) y from rfl] at o4 ⊢
    rw [hdl]
    have HDL := Lib.hid hdl
    have r4 : Ints w4 (.slice A4 n c4) (dist n (J1 l) y) := by have := Reads.of_own o4; rw [hdl] at this; show Reads w4 1 _ (dist n (J1 l) y).length _; rw [hdl]; exact this
    have n4 := n3.below b4
    have g4 := g3.below b4 g3.lt
    have e4 := btrans e3 b4
    clear n3 g3 e3 b4 o4 hdl
    have v5 := Blk.new w4 26 #[.slice A4 n c4]
    have e5 : Below w.heap.size w (w4.alloc (.cells #[.slice A4 n c4] 26)) := e4.alloc e4.size _
    have s5 := (Below.refl w4.heap.size w4).alloc (Nat.le_refl _) (.cells #[.slice A4 n c4] 26)
    have r5 : Ints (w4.alloc (.cells #[.slice A4 n c4] 26)) (.slice A4 n c4) (dist n (J1 l) y) := r4.below s5
    have n5 := n4.below s5
    have g5 := g4.alloc (.cells #[.slice A4 n c4] 26)
    obtain ⟨q0, -⟩ := v5.one
    obtain ⟨g, o, rfl, d0⟩ : ∃ g o, A4 = some ⟨g, o, none⟩ ∧ (w4.alloc (.cells #[.slice A4 n c4] 26)).cell? ⟨g, o + x, none⟩ = some (.int .i64 (fn (dist n (J1 l) y) x)) := by
      obtain ⟨A', c', he, hcc⟩ := r5.form
      obtain ⟨rfl, -, rfl⟩ : A4 = A' ∧ n = (dist n (J1 l) y).length ∧ c4 = c' := by simpa using he
      exact hcc x _ (fn_get (by have := HDL.out; omega))
    have hxy := dist_symm (n := n) (J1_symm l) hyn hxn
    have HV5 := Lib.hid v5
    have HE5 := Lib.hid e5
    have HR5 := Lib.hid r5
    have HN5 := Lib.hid n5
    have HG5 := Lib.hid g5
    have HXY : Hid (fn (dist n (J1 l) x) y = fn (dist n (J1 l) y) x) := hxy
    have hxi : (x : Int) < (n : Int) := by omega
    have hx0 : (0 : Int) ≤ (x : Int) := by omega
    have hz4 := e4.size
    have hz5 : w.heap.size < w4.heap.size := g4.lt
    clear v5 e5 r5 n5 g5 r4 n4 g4 e4 s5 hxy hz1
    by_cases hneg : fn (dist n (J1 l) y) x < 0
    · have dn : decide (fn (dist n (J1 l) y) x < 0) = true := decide_eq_true hneg
      have HNO : Hid (¬ WayOk (n : Int) l (x : Int) (y : Int)) := fun hh => by
        have h2 := hh.2
        rw [Int.toNat_natCast, Int.toNat_natCast, Int.toNat_natCast, HXY.out] at h2
        omega
      clear hneg
      go_wp2_with fail
      go_ret2
      exact RetI.nil HNO.out HE5.out
    · have dn : decide (fn (dist n (J1 l) y) x < 0) = false := decide_eq_false hneg
      obtain ⟨K, hK⟩ : ∃ K : Nat, fn (dist n (J1 l) x) y = (K : Int) := ⟨(fn (dist n (J1 l) x) y).toNat, by rw [HXY.out]; omega⟩
      have HOK : Hid (WayOk (n : Int) l (x : Int) (y : Int) ∧ wayL (n : Int) l (x : Int) (y : Int) = wayT n (J1 l) y x K) := by
        refine ⟨⟨HNB.out, ?_⟩, ?_⟩
        · rw [Int.toNat_natCast, Int.toNat_natCast, Int.toNat_natCast, hK]; omega
        · unfold wayL
          rw [Int.toNat_natCast, Int.toNat_natCast, Int.toNat_natCast, hK, Int.toNat_natCast]
      have hKn : K < n := by have := (dist_lt (J1 l) hxn hyn).2; omega
      have HK := Lib.hid hK
      clear hneg hK
      generalize hD : fn (dist n (J1 l) y) x = dx at *
      clear hD
      generalize hW5 : w4.alloc (.cells #[.slice (some ⟨g, o, none⟩) n c4] 26) = w5 at *
      have hs5 : w4.heap.size < w5.heap.size := by rw [← hW5]; simp
      have HR0 : Hid (((w5.alloc (.cells #[.int .i64 (x : Int)] 3)).alloc (.cells #[.int .i64 (x : Int)] 3)).ownsRow w5.heap.size 3 1 (.slice (some ⟨w5.heap.size, 0, none⟩) 1 1) (wayT n (J1 l) y x 0).length (cellsI (wayT n (J1 l) y x 0))) := (own_new1 w5 3 (x : Int)).alloc _
      have HA0 : Hid (Blk ((w5.alloc (.cells #[.int .i64 (x : Int)] 3)).alloc (.cells #[.int .i64 (x : Int)] 3)) (w5.heap.size + 1) 3 #[.int .i64 (wayA n (J1 l) y x 0 : Int)]) := by
        have h_ := Blk.new (w5.alloc (.cells #[.int .i64 (x : Int)] 3)) 3 #[.int .i64 (x : Int)]
        rw [World.size_alloc] at h_; exact h_
      have HB0 : Hid (Below w5.heap.size w5 ((w5.alloc (.cells #[.int .i64 (x : Int)] 3)).alloc (.cells #[.int .i64 (x : Int)] 3))) := ((Below.refl _ _).alloc (Nat.le_refl _) _).alloc (by simp) _
      go_wp2_with fail
      go_loopg [10, 11] K (fun gg ov av wr => ∃ (k : Nat) (ow : Value) (b : Nat), ow = ov ∧ k + gg = K ∧ av = .pointer (some ⟨b, 0, none⟩) ∧ wr.ownsRow w5.heap.size 3 1 ow (wayT n (J1 l) y x k).length (cellsI (wayT n (J1 l) y x k)) ∧ Hid (ow.ownBlock ≠ some b) ∧
        Blk wr b 3 #[.int .i64 (wayA n (J1 l) y x k : Int)] ∧ w5.heap.size ≤ b ∧ Below w5.heap.size w5 wr)
      case atStart => exact ⟨0, _, _, rfl, by omega, rfl, HR0.out, (by intro hh; simp [Value.ownBlock] at hh), HA0.out, by omega, HB0.out⟩
      case round =>
        clear HR0 HA0 HB0
        obtain ⟨k, ow, b, rfl, hkg, rfl, hrow, hap, hba, hbs, hB⟩ := hrel
        have hat := way_at (J := J1 l) hxn hyn HK.out k (by omega)
        have hend := way_end (J := J1 l) hxn hyn HK.out (k := k) (by omega)
        have hlen := wayT_len n (J1 l) y x k
        obtain ⟨a0, f0⟩ := hba.one
        have hsz := hB.size
        cases gk with
        | zero =>
          obtain rfl : k = K := by omega
          have hy' := hend.2 rfl
          have d0 : ((wayA n (J1 l) y x k : Int) != (y : Int)) = false := by rw [hy']; simp
          have HR := Lib.hid hrow
          have HB := Lib.hid hB
          obtain ⟨A6, c6, rfl⟩ := own_form hrow
          clear hat hend hlen hrow hB hba hy' hbs
          generalize wayA n (J1 l) y x k = a at *
          go_wp2_with fail
          go_ret2
          rw [← HOK.out.2] at HR ⊢
          exact RetI.yes HOK.out.1 (own_base HR.out (by omega)) (HE5.out.trans (HB.out.mono (by omega)))
        | succ g2 =>
          have hne : wayA n (J1 l) y x k ≠ y := fun e => by have := hend.1 e; omega
          have d0 : ((wayA n (J1 l) y x k : Int) != (y : Int)) = true := by simp; omega
          have hns := nxt_spec (J := J1 l) (k := K - (k + 1)) hat.1 hyn (by rw [hat.2]; omega)
          have HTS := Lib.hid (wayT_succ n (J1 l) y x k)
          have HAS : Hid (wayA n (J1 l) y x (k + 1) = nxt n (J1 l) y (wayA n (J1 l) y x k)) := rfl
          have hgb := HG5.out.below hB HG5.out.lt
          obtain ⟨p0, p1, -, -⟩ := hgb.two
          have F : Hid (Fn1 wr 49 #[.pointer (some ⟨w2.heap.size, 0, none⟩), .pointer (some ⟨b, 0, none⟩), .pointer (some ⟨w4.heap.size, 0, none⟩)] n (nxP n (J1 l) y (wayA n (J1 l) y x k))) :=
            { enter := fun _ _ => by kernel_rfl
              call := fun W hb z hz => by
                rw [← step_is (J1_symm l) hyn hat.1 hz (by rw [hat.2]; omega)]
                exact wayClo_any n y (wayA n (J1 l) y x k) z w2.heap.size b w4.heap.size _ _ l W HGD.out ((HN5.out.below hB).below hb) (cell_keep a0 hb) (cell_keep (cell_keep (HV5.out.cell 0) hB) hb) ((HR5.out.below hB).below hb) hn8 hyn hat.1 hz }
          have hnh := nw_head (p := nxP n (J1 l) y (wayA n (J1 l) y x k)) hns.1 (by
            unfold nxP
            rw [hns.2.1, Bool.true_and, decide_eq_true_iff, hns.2.2.1, hat.2]; omega) hns.2.2.2
          have HNW := Lib.hid (nodesWhere_any n 49 _ _ wr hn8 F.out)
          have HROW := Lib.hid hrow
          have HBA := Lib.hid hba
          have HB := Lib.hid hB
          have hlk : k + 1 ≤ 8 := by omega
          have HLEN := Lib.hid hlen
          clear hat hend hne hns hrow hba hB hgb F hlen
          generalize hAA : wayA n (J1 l) y x k = a at *
          generalize nxt n (J1 l) y a = z at *
          generalize nw (nxP n (J1 l) y a) n = nr at *
          clear hAA
          go_wp2_with fail
          refine HNW.out.mono ?_
          rintro e w6 ⟨A6, c6, rfl, o6, b6⟩
          have hnl : 0 < nr.length := (List.getElem?_eq_some_iff.1 hnh).1
          have hnl' : (0 : Int) < (nr.length : Int) := by omega
          obtain ⟨_, _, hf, hcc⟩ := (show Ints w6 (.slice A6 nr.length c6) nr from Reads.of_own o6).form
          cases hf
          obtain ⟨g6, o6', rfl, q6⟩ := hcc 0 _ hnh
          rw [Nat.add_zero] at q6
          have hrow6 := own_below HROW.out b6
          have hba6 := HBA.out.below b6 HBA.out.lt
          have hB6 := HB.out.trans (b6.mono hsz)
          obtain ⟨a6, f6⟩ := hba6.one
          have hk : w6.grownBy (w6.setCell ⟨b, 0, none⟩ (.int .i64 (z : Int))) (some b) := ⟨rfl, rfl, rfl, by simp [World.setCell], fun k _ hk => Below.heap_setCell _ _ _ _ (fun e => hk (by simp [e]))⟩
          have HR7 := Lib.hid (hrow6.kept hk (.inr hap.out))
          have HA7 : Hid (Blk (w6.setCell ⟨b, 0, none⟩ (.int .i64 (z : Int))) b 3 #[.int .i64 (z : Int)]) := by
            have h_ := hba6.set_ 0 (.int .i64 (z : Int))
            show Blk _ _ _ _
            simpa using h_
          have HB7 := Lib.hid (hB6.setCell (p := ⟨b, 0, none⟩) hbs (.int .i64 (z : Int)))
          clear p0 p1 a0 f0 hnh hcc o6 b6 hrow6 hba6 hB6 hk
          have hsz6 : w5.heap.size ≤ w6.heap.size := by have h_ := HB7.out.size; simpa [World.setCell] using h_
          have hsz7 : w5.heap.size ≤ (w6.setCell ⟨b, 0, none⟩ (.int .i64 (z : Int))).heap.size := HB7.out.size
          have hl9 : (wayT n (J1 l) y x k).length ≤ 8 := by have := HLEN.out; omega
          generalize wayT n (J1 l) y x k = wt at *
          have hse : (w6.setCell ⟨b, 0, none⟩ (.int .i64 (z : Int))).heap.size = w6.heap.size := by simp [World.setCell]
          have HCN := Lib.hid (cell_one_new (w6.setCell ⟨b, 0, none⟩ (.int .i64 (z : Int))) (.int .i64 (z : Int)) 3)
          rw [hse] at HCN
          clear hse
          go_wp2_with (at_builtin; refine wpList_append_own_at _ rfl _ _ 26 rfl (w5.heap.size) 3 i0 (.int .i64 0) 1 8 Try.underlying26 hi hz0 hz1 hz2 rfl (by decide) _ _ _ rfl (HR7.out.alloc _) ⟨w6.heap.size, 0, none⟩ 1 1 [.int .i64 (z : Int)] rfl rfl HCN.out (fun x hx => by simp at hx; subst hx; rfl) (by unfold maxLen; omega) (by omega) (by simp; omega) ?_; intro v2 w2 hown2 hgrow2 _ hl2; have hba9 := (HA7.out.alloc (.cells #[.int .i64 (z : Int)] 3)).grown hgrow2 (fun e => hap.out e.symm); obtain ⟨a9, f9⟩ := hba9.one)
          obtain ⟨hown3, hB2⟩ := push1 HR7.out hown2 hgrow2 hsz7
          rw [← HAS.out, ← HTS.out] at hown3
          have HAP9 : Hid (v2.ownBlock ≠ some w2.heap.size) := fun e => by have := (hown3.lt _ e).2; omega
          have HO9 := Lib.hid hown3
          have HB9 := Lib.hid (HB7.out.trans hB2)
          clear hgrow2 hown2 hown3 hB2 hl2 hba9 a6 f6 q6
          go_roundg g2
          case measure => omega
          case rel => exact ⟨k + 1, v2, w2.heap.size, rfl, by omega, rfl, HO9.out.alloc _, HAP9, by rw [HAS.out]; exact Blk.new _ _ _, HB9.out.size, HB9.out.alloc HB9.out.size _⟩
theorem keep6 {P : Program} {f : FuncId} {args : Array Value} {W : World} {R : Ending → Prop} {p q r s t u : Addr} {a b c d e' f' : Value}
    (h : Calls P f args W fun e w' => R e ∧ Below W.heap.size W w') (hp : W.cell? p = some a) (hq : W.cell? q = some b) (hr : W.cell? r = some c) (hs : W.cell? s = some d) (ht : W.cell? t = some e') (hu : W.cell? u = some f') :
    Calls P f args W fun e w' => R e ∧ w'.cell? p = some a ∧ w'.cell? q = some b ∧ w'.cell? r = some c ∧ w'.cell? s = some d ∧ w'.cell? t = some e' ∧ w'.cell? u = some f' ∧ Below W.heap.size W w' :=
  h.mono fun _ _ ⟨he, hb⟩ => ⟨he, (hb.cell (World.block_lt_of_cell? W _ hp)).trans hp, (hb.cell (World.block_lt_of_cell? W _ hq)).trans hq, (hb.cell (World.block_lt_of_cell? W _ hr)).trans hr, (hb.cell (World.block_lt_of_cell? W _ hs)).trans hs,
    (hb.cell (World.block_lt_of_cell? W _ ht)).trans ht, (hb.cell (World.block_lt_of_cell? W _ hu)).trans hu, hb⟩
theorem grid_cell {w : World} {B i n c : Nat} {A : Option Addr} {us : List Value} {u : Value} (h : w.ownsRow B 26 1 (.slice A n c) n us) (hu : us[i]? = some u) :
    ∃ g, A = some ⟨g, 0, none⟩ ∧ w.cell? ⟨g, i, none⟩ = some u ∧ B ≤ g ∧ g < w.heap.size := by
  have hi := (List.getElem?_eq_some_iff.1 hu).1
  have hl := h.1
  rcases h.2 with ⟨hf, _⟩ | ⟨g, cap, cur, hf, _⟩
  · have := congrArg (fun v => match v with | .slice _ n _ => n | _ => 0) hf
    simp at this
    omega
  · obtain ⟨rfl, rfl⟩ : A = some ⟨g, 0, none⟩ ∧ c = cap := by simpa using hf
    have := h.cellAt i (by omega)
    rw [hu] at this
    exact ⟨g, rfl, this, (h.lt g rfl).1, (h.lt g rfl).2⟩
/-- a number of the table of distances -/
theorem dist_cell {w : World} {B n x y g c : Nat} {us : List Value} {l : List Ed} (h : OwnG w B (.slice (some ⟨g, 0, none⟩) (distG n l).length c) us (distG n l)) (hx : x < n) (hy : y < n) :
    ∃ gr gx c5, w.cell? ⟨g, x, none⟩ = some (.slice (some ⟨gr, gx, none⟩) n c5) ∧ w.cell? ⟨gr, gx + y, none⟩ = some (.int .i64 (fn (dist n (J1 l) x) y)) := by
  obtain ⟨u5, hu5, o5⟩ := h.row (distTo_at n l hx)
  obtain ⟨A5, c5, rfl⟩ := own_form o5
  obtain ⟨g', e, f5, _⟩ := grid_cell h.1 hu5
  obtain rfl : g = g' := by simpa using e
  have hd := dist_len (J1 l) hx
  have hi : Ints w (.slice A5 (dist n (J1 l) x).length c5) (dist n (J1 l) x) := Reads.of_own o5
  obtain ⟨_, _, hf, hcc⟩ := hi.form
  cases hf
  obtain ⟨g6, o6, rfl, q6⟩ := hcc y _ (fn_get (by omega))
  rw [hd] at f5
  exact ⟨g6, o6, c5, f5, q6⟩
theorem dist_base {w : World} {B n x g c : Nat} {A : Option Addr} {us : List Value} {l : List Ed} (h : OwnG w B (.slice A (distG n l).length c) us (distG n l)) (hx : x < n) : ∃ g, A = some ⟨g, 0, none⟩ := by
  obtain ⟨u5, hu5, _⟩ := h.row (distTo_at n l hx)
  obtain ⟨g', e, _⟩ := grid_cell h.1 hu5
  exact ⟨g', e⟩
set_option maxHeartbeats 8000000 in
set_option maxRecDepth 100000 in
theorem specWay_any (s x y : Int) (v : Value) (l : List Ed) (w : World) (h : Edges w v l) (hl : l.length ≤ 1048576) (hs1 : -9223372036854775808 ≤ s) (hs2 : s ≤ 9223372036854775807) :
    Calls Try.prog 12 #[.agg #[.int .i64 s, v], .int .i64 x, .int .i64 y] w (RetI w (WayOk s l x y) (wayL s l x y)) := by
  obtain ⟨A, c, rfl, -⟩ := h.form
  obtain ⟨i0, hi, hz0, hz1, hz2⟩ := info_parts infoInt
  have H := Lib.hid h
  have b0 : Below w.heap.size w (w.alloc (.cells #[.int .i64 s, .slice A l.length c] 29)) := (Below.refl _ _).alloc (Nat.le_refl _) _
  have g0 := Blk.new w 29 #[.int .i64 s, .slice A l.length c]
  have HG := Lib.hid (l2Good_any s _ l _ (h.below b0) hl hs1 hs2)
  clear h
  by_cases hgd : P2.Good s l
  rotate_left
  · rw [goodB_no hgd] at HG
    have HNO : Hid (¬ WayOk s l x y) := fun hh => hgd (nodesB_iff.1 hh.1).1
    clear hgd
    go_enter Try.func12, Try.ntmps12
    go_wp2_with fail
    refine HG.out.mono ?_
    rintro e w1 ⟨rfl, b1⟩
    have e1 := btrans b0 b1
    go_wp2_with fail
    go_ret2
    exact RetI.no HNO.out (own_base (own_new0 _ _ _) e1.size) (e1.alloc e1.size _)
  rw [goodB_yes hgd] at HG
  have h0 := hgd.1
  have h8 := hgd.2.1
  obtain ⟨n, rfl⟩ : ∃ n : Nat, s = (n : Int) := ⟨s.toNat, by omega⟩
  have hn8 : n ≤ 8 := by omega
  have HGD := Lib.hid hgd
  clear hgd
  have HNX := Lib.hid (fun (W : World) (hW : Below w.heap.size w W) => l2Node_any (n : Int) x _ l W (H.out.below hW) h0 h8)
  have HNY := Lib.hid (fun (W : World) (hW : Below w.heap.size w W) => l2Node_any (n : Int) y _ l W (H.out.below hW) h0 h8)
  by_cases hx : 0 ≤ x ∧ x < (n : Int)
  rotate_left
  · rw [show inB x 0 ((n : Int) - 1) = false by simp [inB]; omega] at HNX
    have HNO : Hid (¬ WayOk (n : Int) l x y) := fun hh => hx ((nodesB_iff.1 hh.1).2 x (by simp))
    clear hx
    go_enter Try.func12, Try.ntmps12
    go_wp2_with fail
    refine HG.out.mono ?_
    rintro e w1 ⟨rfl, b1⟩
    have e1 := btrans b0 b1
    have g1 := g0.below b1 g0.lt
    clear HG b0 b1 g0
    obtain ⟨p0, p1, -, -⟩ := g1.two
    go_wp2_with fail
    refine (HNX.out w1 e1).mono ?_
    rintro e w2 ⟨rfl, b2⟩
    have e2 := btrans e1 b2
    go_wp2_with fail
    go_ret2
    exact RetI.no HNO.out (own_base (own_new0 _ _ _) e2.size) (e2.alloc e2.size _)
  rw [show inB x 0 ((n : Int) - 1) = true by simp [inB]; omega] at HNX
  by_cases hy : 0 ≤ y ∧ y < (n : Int)
  rotate_left
  · rw [show inB y 0 ((n : Int) - 1) = false by simp [inB]; omega] at HNY
    have HNO : Hid (¬ WayOk (n : Int) l x y) := fun hh => hy ((nodesB_iff.1 hh.1).2 y (by simp))
    clear hy
    go_enter Try.func12, Try.ntmps12
    go_wp2_with fail
    refine HG.out.mono ?_
    rintro e w1 ⟨rfl, b1⟩
    have e1 := btrans b0 b1
    have g1 := g0.below b1 g0.lt
    clear HG b0 b1 g0
    obtain ⟨p0, p1, -, -⟩ := g1.two
    go_wp2_with fail
    refine (HNX.out w1 e1).mono ?_
    rintro e w2 ⟨rfl, b2⟩
    have e2 := btrans e1 b2
    have g2 := g1.below b2 g1.lt
    clear p0 p1 g1 b2
    obtain ⟨p0, p1, -, -⟩ := g2.two
    go_wp2_with fail
    refine (HNY.out w2 e2).mono ?_
    rintro e w3 ⟨rfl, b3⟩
    have e3 := btrans e2 b3
    go_wp2_with fail
    go_ret2
    exact RetI.no HNO.out (own_base (own_new0 _ _ _) e3.size) (e3.alloc e3.size _)
  rw [show inB y 0 ((n : Int) - 1) = true by simp [inB]; omega] at HNY
  obtain ⟨x, rfl⟩ : ∃ k : Nat, x = (k : Int) := ⟨x.toNat, by omega⟩
  obtain ⟨y, rfl⟩ : ∃ k : Nat, y = (k : Int) := ⟨y.toNat, by omega⟩
  have hxn : x < n := by omega
  have hyn : y < n := by omega
  have HNB : Hid (nodesB (n : Int) l [(x : Int), (y : Int)] = true) := nodesB_yes HGD.out (by simp; omega)
  clear hx hy
  go_enter Try.func12, Try.ntmps12
  go_wp2_with fail
  refine HG.out.mono ?_
  rintro e w1 ⟨rfl, b1⟩
  have e1 := btrans b0 b1
  have g1 := g0.below b1 g0.lt
  clear HG b0 b1 g0
  obtain ⟨p0, p1, -, -⟩ := g1.two
  go_wp2_with fail
  refine (HNX.out w1 e1).mono ?_
  rintro e w2 ⟨rfl, b2⟩
  have e2 := btrans e1 b2
  have g2 := g1.below b2 g1.lt
  clear p0 p1 g1 b2 e1
  obtain ⟨p0, p1, -, -⟩ := g2.two
  go_wp2_with fail
  refine (HNY.out w2 e2).mono ?_
  rintro e w3 ⟨rfl, b3⟩
  have e3 := btrans e2 b3
  have g3 := g2.below b3 g2.lt
  clear p0 p1 g2 b3 e2
  obtain ⟨p0, p1, -, -⟩ := g3.two
  go_wp2_with fail
  refine (l2Dist_any n (.slice A l.length c) l w3 (H.out.below e3) hl hn8).mono ?_
  rintro e w4 ⟨A4, c4, us, rfl, o4, b4⟩
  have e4 := btrans e3 b4
  have g4 := g3.below b4 g3.lt
  obtain ⟨gd, rfl⟩ := dist_base (g := 0) o4 hxn
  obtain ⟨gr, gx, c5, q5, q6⟩ := dist_cell o4 hxn hyn
  have hdg := distG_len n l
  have HDG := Lib.hid (distG_len n l)
  have hxi : (x : Int) < ((distG n l).length : Int) := by omega
  have hxi' : (x : Int) < (n : Int) := by omega
  have hyi : (y : Int) < (n : Int) := by omega
  have hx0 : (0 : Int) ≤ (x : Int) := by omega
  have hy0 : (0 : Int) ≤ (y : Int) := by omega
  have HO4 := Lib.hid o4
  have HE4 := Lib.hid e4
  have HG4 := Lib.hid g4
  have hz4 := e4.size
  clear o4 e4 g4 g3 e3 b4 p0 p1 hdg
  by_cases hneg : fn (dist n (J1 l) x) y < 0
  · have dn : decide (fn (dist n (J1 l) x) y < 0) = true := decide_eq_true hneg
    have HNO : Hid (¬ WayOk (n : Int) l (x : Int) (y : Int)) := fun hh => by
      have h2 := hh.2
      rw [Int.toNat_natCast, Int.toNat_natCast, Int.toNat_natCast] at h2
      omega
    clear hneg
    go_wp2_with fail
    go_ret2
    exact RetI.no HNO.out (own_base (own_new0 _ _ _) hz4) (HE4.out.alloc hz4 _)
  · have dn : decide (fn (dist n (J1 l) x) y < 0) = false := decide_eq_false hneg
    obtain ⟨K, hK⟩ : ∃ K : Nat, fn (dist n (J1 l) x) y = (K : Int) := ⟨(fn (dist n (J1 l) x) y).toNat, by omega⟩
    have HOK : Hid (WayOk (n : Int) l (x : Int) (y : Int) ∧ wayL (n : Int) l (x : Int) (y : Int) = wayT n (J1 l) y x K) := by
      refine ⟨⟨HNB.out, ?_⟩, ?_⟩
      · rw [Int.toNat_natCast, Int.toNat_natCast, Int.toNat_natCast, hK]; omega
      · unfold wayL
        rw [Int.toNat_natCast, Int.toNat_natCast, Int.toNat_natCast, hK, Int.toNat_natCast]
    have hKn : K < n := by have := (dist_lt (J1 l) hxn hyn).2; omega
    have HK := Lib.hid hK
    clear hneg hK
    generalize hD : fn (dist n (J1 l) x) y = dx at q6 dn
    clear hD
    have HR0 : Hid ((w4.alloc (.cells #[.int .i64 (x : Int)] 3)).ownsRow w4.heap.size 3 1 (.slice (some ⟨w4.heap.size, 0, none⟩) 1 1) (wayT n (J1 l) y x 0).length (cellsI (wayT n (J1 l) y x 0))) := own_new1 w4 3 (x : Int)
    have HB0 : Hid (Below w4.heap.size w4 (w4.alloc (.cells #[.int .i64 (x : Int)] 3))) := (Below.refl _ _).alloc (Nat.le_refl _) _
    go_wp2_with fail
    clear q5 q6
    go_loopg [1, 9] K (fun gg xv ov wr => ∃ (k : Nat) (ow : Value), ow = ov ∧ k + gg = K ∧ xv = .int .i64 (wayA n (J1 l) y x k : Int) ∧ wr.ownsRow w4.heap.size 3 1 ow (wayT n (J1 l) y x k).length (cellsI (wayT n (J1 l) y x k)) ∧ Below w4.heap.size w4 wr)
    case atStart => exact ⟨0, _, rfl, by omega, rfl, HR0.out, HB0.out⟩
    case round =>
      clear HR0 HB0
      obtain ⟨k, ow, rfl, hkg, rfl, hrow, hB⟩ := hrel
      have hat := way_at (J := J1 l) hxn hyn HK.out k (by omega)
      have hend := way_end (J := J1 l) hxn hyn HK.out (k := k) (by omega)
      have hlen := wayT_len n (J1 l) y x k
      have hsz := hB.size
      cases gk with
      | zero =>
        obtain rfl : k = K := by omega
        have hy' := hend.2 rfl
        have d0 : ((wayA n (J1 l) y x k : Int) != (y : Int)) = false := by rw [hy']; simp
        have HR := Lib.hid hrow
        have HB := Lib.hid hB
        obtain ⟨A6, c6, rfl⟩ := own_form hrow
        clear hat hend hlen hrow hB hy'
        generalize wayA n (J1 l) y x k = a at *
        go_wp2_with fail
        go_ret2
        rw [← HOK.out.2] at HR ⊢
        exact RetI.yes HOK.out.1 (own_base HR.out (by omega)) (HE4.out.trans (HB.out.mono (by omega)))
      | succ g2 =>
        have hne : wayA n (J1 l) y x k ≠ y := fun e => by have := hend.1 e; omega
        have d0 : ((wayA n (J1 l) y x k : Int) != (y : Int)) = true := by simp; omega
        have hns := nxt_spec (J := J1 l) (k := K - (k + 1)) hat.1 hyn (by rw [hat.2]; omega)
        have HTS := Lib.hid (wayT_succ n (J1 l) y x k)
        have HAS : Hid (wayA n (J1 l) y x (k + 1) = nxt n (J1 l) y (wayA n (J1 l) y x k)) := rfl
        have HNS : Hid (nxP n (J1 l) y (wayA n (J1 l) y x k) (nxt n (J1 l) y (wayA n (J1 l) y x k)) = true) := by
          show _ = _
          unfold nxP
          rw [hns.2.1, Bool.true_and, decide_eq_true_iff, hns.2.2.1, hat.2]; omega
        have HNO := Lib.hid hns.2.2.2
        have hzn := hns.1
        have han := hat.1
        have HROW := Lib.hid hrow
        have HB := Lib.hid hB
        have hlk : k + 1 ≤ 8 := by omega
        have HLEN := Lib.hid hlen
        clear hat hend hne hns hrow hB hlen
        generalize hAA : wayA n (J1 l) y x k = a at *
        generalize hZZ : nxt n (J1 l) y a = z at *
        clear hAA hZZ
        go_wp2_with fail
        go_loopg [10] z (fun gg zv wi => ∃ j : Nat, j + gg = z ∧ zv = .int .i64 (j : Int) ∧ Below wr.heap.size wr wi)
        case atStart => exact ⟨0, by omega, rfl, Below.refl _ _⟩
        case round =>
          obtain ⟨j, hjg, rfl, hBi⟩ := hrel
          have hjn : j < n := by omega
          have hBj := HB.out.trans (hBi.mono hsz)
          obtain ⟨gz, gzo, cz, z5, z6⟩ := dist_cell (HO4.out.below hBj) hjn hyn
          obtain ⟨ga, gao, ca, a5, a6⟩ := dist_cell (HO4.out.below hBj) han hyn
          have gj := HG4.out.below hBj HG4.out.lt
          obtain ⟨p0, p1, -, -⟩ := gj.two
          have hja : (a : Int) < ((distG n l).length : Int) := by have := HDG.out; omega
          have hjj : (j : Int) < ((distG n l).length : Int) := by have := HDG.out; omega
          have hja' : (a : Int) < (n : Int) := by omega
          have hjj' : (j : Int) < (n : Int) := by omega
          have hja0 : (0 : Int) ≤ (a : Int) := by omega
          have hjj0 : (0 : Int) ≤ (j : Int) := by omega
          have HNR := Lib.hid (l2Near_any (n : Int) (a : Int) (j : Int) (.slice A l.length c) l wr.drew (H.out.below (HE4.out.trans ((hBj.mono hz4)).drew)) hl)
          have HBJ := Lib.hid hBi
          have hnp : nxP n (J1 l) y a j = (adj l (a : Int) (j : Int) && decide (fn (dist n (J1 l) j) y = fn (dist n (J1 l) a) y - 1)) := rfl
          have hdz := dist_lt (J1 l) hjn hyn
          have hda := dist_lt (J1 l) han hyn
          have hnf := HNO.out j
          rw [hnp] at hnf
          have hnt : j = z → (adj l (a : Int) (j : Int) && decide (fn (dist n (J1 l) j) y = fn (dist n (J1 l) a) y - 1)) = true := fun e => by
            have h_ := HNS.out
            rw [← e] at h_
            exact h_
          clear hnp hBi hBj gj
          generalize fn (dist n (J1 l) j) y = dz at *
          generalize fn (dist n (J1 l) a) y = da at *
          have hwd : IntKind.i64.wrap (da - 1) = da - 1 := by rw [IntKind.wrap_i64]; omega
          by_cases hjz : j < z
          · have hf := hnf hjz
            obtain ⟨g4, rfl⟩ : ∃ g4, gk = g4 + 1 := ⟨gk - 1, by omega⟩
            cases hadj : adj l (a : Int) (j : Int) with
            | false =>
              rw [hadj] at HNR
              clear hadj hf hnf hnt
              go_wp2_with fail
              refine wp_region_held_drew (S := (fun w' : World => w'.cell? ⟨w.heap.size, 0, none⟩ = some (.int .i64 (n : Int)) ∧ w'.cell? ⟨w.heap.size, 1, none⟩ = some (.slice A l.length c) ∧ w'.cell? ⟨gd, j, none⟩ = some (.slice (some ⟨gz, gzo, none⟩) n cz) ∧ w'.cell? ⟨gz, gzo + y, none⟩ = some (.int .i64 dz) ∧ w'.cell? ⟨gd, a, none⟩ = some (.slice (some ⟨ga, gao, none⟩) n ca) ∧ w'.cell? ⟨ga, gao + y, none⟩ = some (.int .i64 da))) (by kernel_rfl) (by (try dsimp only); simp [*]) (fun hHeld => ?_)
              change wpAnyH _ _ _ _ _ _ #[false, false, false, false, false, false, false, false, false, false, false, false, false, false, false, false, false, false, false, false, false, false, false] _ _
              refine wpAnyH_take (i := 0) (oi := ⟨some 43, _, _, _, _, _⟩) (v := ?_) rfl (by kernel_rfl) (by kernel_rfl) (by kernel_rfl) (fun _ _ _ h => h) (Or.inl ⟨by rfl, ?_⟩) (by assumption) ?_
              rotate_left
              · (intro w hSw; (try dsimp only at hSw); go_simp; (try (with_reducible rfl)))
              try simp only [Act.put, List.setIfInBounds_toArray, List.set_cons_zero, List.set_cons_succ]
              refine wpAnyH_take (i := 1) (oi := ⟨some 44, _, _, _, _, _⟩) (v := ?_) rfl (by kernel_rfl) (by kernel_rfl) (by kernel_rfl) (fun _ _ _ h => h) (Or.inl ⟨by rfl, ?_⟩) (by assumption) ?_
              rotate_left
              · (intro w hSw; (try dsimp only at hSw); go_simp; (try (with_reducible rfl)))
              try simp only [Act.put, List.setIfInBounds_toArray, List.set_cons_zero, List.set_cons_succ]
              refine wpAnyH_take (i := 2) (oi := ⟨some 45, _, _, _, _, _⟩) (v := ?_) rfl (by kernel_rfl) (by kernel_rfl) (by kernel_rfl) (fun _ _ _ h => h) (Or.inl ⟨by rfl, ?_⟩) (by assumption) ?_
              rotate_left
              · (intro w hSw; (try dsimp only at hSw); go_simp; (try (with_reducible rfl)))
              try simp only [Act.put, List.setIfInBounds_toArray, List.set_cons_zero, List.set_cons_succ]
              refine wpAnyH_ready (rs := [3]) (by kernel_rfl) (by simp) ?_
              refine AllReadyH.cons (o := ⟨some 46, _, _, _, _, _⟩) rfl (fun K hK => ?_) AllReadyH.nil
              go_simp
              refine (keep6 HNR.out (p := ⟨w.heap.size, 0, none⟩) (q := ⟨w.heap.size, 1, none⟩) (r := ⟨gd, j, none⟩) (s := ⟨gz, gzo + y, none⟩) (t := ⟨gd, a, none⟩) (u := ⟨ga, gao + y, none⟩) (a := .int .i64 (n : Int)) (b := .slice A l.length c) (c := .slice (some ⟨gz, gzo, none⟩) n cz) (d := .int .i64 dz) (e' := .slice (some ⟨ga, gao, none⟩) n ca) (f' := .int .i64 da) ?_ ?_ ?_ ?_ ?_ ?_).mono ?_; (simp [*]); (simp [*]); (simp [*]); (simp [*]); (simp [*]); (simp [*]); rintro e w5 ⟨rfl, k0, k1, k2, k3, k4, k5, b5⟩
              go_wp2_with fail
              refine hK.out _ _ (by (try dsimp only); simp [*]) (fun hHeld => ?_)
              clear hK K
              try simp only [List.setIfInBounds_toArray, List.set_cons_zero, List.set_cons_succ]
              refine wpAnyH_take (i := 4) (oi := ⟨some 47, _, _, _, _, _⟩) (v := ?_) rfl (by kernel_rfl) (by kernel_rfl) (by kernel_rfl) (fun _ _ _ h => h) (Or.inl ⟨by rfl, ?_⟩) (by assumption) ?_
              rotate_left
              · (intro w hSw; (try dsimp only at hSw); go_simp; (try (with_reducible rfl)))
              try simp only [Act.put, List.setIfInBounds_toArray, List.set_cons_zero, List.set_cons_succ]
              refine wpAnyH_take (i := 5) (oi := ⟨some 48, _, _, _, _, _⟩) (v := ?_) rfl (by kernel_rfl) (by kernel_rfl) (by kernel_rfl) (fun _ _ _ h => h) (Or.inl ⟨by rfl, ?_⟩) (by assumption) ?_
              rotate_left
              · (intro w hSw; (try dsimp only at hSw); go_simp; (try (with_reducible rfl)))
              try simp only [Act.put, List.setIfInBounds_toArray, List.set_cons_zero, List.set_cons_succ]
              refine wpAnyH_take (i := 6) (oi := ⟨some 49, _, _, _, _, _⟩) (v := undef) rfl (by kernel_rfl) (by kernel_rfl) (by kernel_rfl) (fun _ _ _ h => h) (Or.inr ⟨by rfl, rfl⟩) (by assumption) ?_
              try simp only [Act.put, List.setIfInBounds_toArray, List.set_cons_zero, List.set_cons_succ]
              refine wpAnyH_take (i := 7) (oi := ⟨some 50, _, _, _, _, _⟩) (v := undef) rfl (by kernel_rfl) (by kernel_rfl) (by kernel_rfl) (fun _ _ _ h => h) (Or.inr ⟨by rfl, rfl⟩) (by assumption) ?_
              try simp only [Act.put, List.setIfInBounds_toArray, List.set_cons_zero, List.set_cons_succ]
              refine wpAnyH_take (i := 8) (oi := ⟨some 51, _, _, _, _, _⟩) (v := undef) rfl (by kernel_rfl) (by kernel_rfl) (by kernel_rfl) (fun _ _ _ h => h) (Or.inr ⟨by rfl, rfl⟩) (by assumption) ?_
              try simp only [Act.put, List.setIfInBounds_toArray, List.set_cons_zero, List.set_cons_succ]
              refine wpAnyH_take (i := 9) (oi := ⟨some 52, _, _, _, _, _⟩) (v := undef) rfl (by kernel_rfl) (by kernel_rfl) (by kernel_rfl) (fun _ _ _ h => h) (Or.inr ⟨by rfl, rfl⟩) (by assumption) ?_
              try simp only [Act.put, List.setIfInBounds_toArray, List.set_cons_zero, List.set_cons_succ]
              refine wpAnyH_take (i := 10) (oi := ⟨some 53, _, _, _, _, _⟩) (v := undef) rfl (by kernel_rfl) (by kernel_rfl) (by kernel_rfl) (fun _ _ _ h => h) (Or.inr ⟨by rfl, rfl⟩) (by assumption) ?_
              try simp only [Act.put, List.setIfInBounds_toArray, List.set_cons_zero, List.set_cons_succ]
              refine wpAnyH_take (i := 11) (oi := ⟨some 54, _, _, _, _, _⟩) (v := undef) rfl (by kernel_rfl) (by kernel_rfl) (by kernel_rfl) (fun _ _ _ h => h) (Or.inr ⟨by rfl, rfl⟩) (by assumption) ?_
              try simp only [Act.put, List.setIfInBounds_toArray, List.set_cons_zero, List.set_cons_succ]
              refine wpAnyH_take (i := 12) (oi := ⟨some 55, _, _, _, _, _⟩) (v := undef) rfl (by kernel_rfl) (by kernel_rfl) (by kernel_rfl) (fun _ _ _ h => h) (Or.inr ⟨by rfl, rfl⟩) (by assumption) ?_
              try simp only [Act.put, List.setIfInBounds_toArray, List.set_cons_zero, List.set_cons_succ]
              refine wpAnyH_take (i := 13) (oi := ⟨some 56, _, _, _, _, _⟩) (v := undef) rfl (by kernel_rfl) (by kernel_rfl) (by kernel_rfl) (fun _ _ _ h => h) (Or.inr ⟨by rfl, rfl⟩) (by assumption) ?_
              try simp only [Act.put, List.setIfInBounds_toArray, List.set_cons_zero, List.set_cons_succ]
              refine wpAnyH_take (i := 14) (oi := ⟨some 57, _, _, _, _, _⟩) (v := undef) rfl (by kernel_rfl) (by kernel_rfl) (by kernel_rfl) (fun _ _ _ h => h) (Or.inr ⟨by rfl, rfl⟩) (by assumption) ?_
              try simp only [Act.put, List.setIfInBounds_toArray, List.set_cons_zero, List.set_cons_succ]
              refine wpAnyH_take (i := 15) (oi := ⟨some 58, _, _, _, _, _⟩) (v := undef) rfl (by kernel_rfl) (by kernel_rfl) (by kernel_rfl) (fun _ _ _ h => h) (Or.inr ⟨by rfl, rfl⟩) (by assumption) ?_
              try simp only [Act.put, List.setIfInBounds_toArray, List.set_cons_zero, List.set_cons_succ]
              refine wpAnyH_take (i := 16) (oi := ⟨some 59, _, _, _, _, _⟩) (v := undef) rfl (by kernel_rfl) (by kernel_rfl) (by kernel_rfl) (fun _ _ _ h => h) (Or.inr ⟨by rfl, rfl⟩) (by assumption) ?_
              try simp only [Act.put, List.setIfInBounds_toArray, List.set_cons_zero, List.set_cons_succ]
              refine wpAnyH_take (i := 17) (oi := ⟨some 60, _, _, _, _, _⟩) (v := undef) rfl (by kernel_rfl) (by kernel_rfl) (by kernel_rfl) (fun _ _ _ h => h) (Or.inr ⟨by rfl, rfl⟩) (by assumption) ?_
              try simp only [Act.put, List.setIfInBounds_toArray, List.set_cons_zero, List.set_cons_succ]
              refine wpAnyH_take (i := 18) (oi := ⟨some 61, _, _, _, _, _⟩) (v := undef) rfl (by kernel_rfl) (by kernel_rfl) (by kernel_rfl) (fun _ _ _ h => h) (Or.inr ⟨by rfl, rfl⟩) (by assumption) ?_
              try simp only [Act.put, List.setIfInBounds_toArray, List.set_cons_zero, List.set_cons_succ]
              refine wpAnyH_take (i := 19) (oi := ⟨some 62, _, _, _, _, _⟩) (v := undef) rfl (by kernel_rfl) (by kernel_rfl) (by kernel_rfl) (fun _ _ _ h => h) (Or.inr ⟨by rfl, rfl⟩) (by assumption) ?_
              try simp only [Act.put, List.setIfInBounds_toArray, List.set_cons_zero, List.set_cons_succ]
              refine wpAnyH_take (i := 20) (oi := ⟨some 63, _, _, _, _, _⟩) (v := undef) rfl (by kernel_rfl) (by kernel_rfl) (by kernel_rfl) (fun _ _ _ h => h) (Or.inr ⟨by rfl, rfl⟩) (by assumption) ?_
              try simp only [Act.put, List.setIfInBounds_toArray, List.set_cons_zero, List.set_cons_succ]
              refine wpAnyH_take (i := 21) (oi := ⟨some 64, _, _, _, _, _⟩) (v := undef) rfl (by kernel_rfl) (by kernel_rfl) (by kernel_rfl) (fun _ _ _ h => h) (Or.inr ⟨by rfl, rfl⟩) (by assumption) ?_
              try simp only [Act.put, List.setIfInBounds_toArray, List.set_cons_zero, List.set_cons_succ]
              refine wpAnyH_take (i := 22) (oi := ⟨some 65, _, _, _, _, _⟩) (v := ?_) rfl (by kernel_rfl) (by kernel_rfl) (by kernel_rfl) (fun _ _ _ h => h) (Or.inl ⟨by rfl, ?_⟩) (by assumption) ?_
              rotate_left
              · (intro w hSw; (try dsimp only at hSw); go_simp; (try (with_reducible rfl)))
              try simp only [Act.put, List.setIfInBounds_toArray, List.set_cons_zero, List.set_cons_succ]
              refine wpAnyH_done (by kernel_rfl) ?_ _
              have HBN := Lib.hid (btrans HBJ.out ((Below.refl _ _).drew.trans b5))
              clear b5 p0 p1 z5 z6 a5 a6 k0 k1 k2 k3 k4 k5
              go_wp2_with fail
              go_roundg g4
              case measure => omega
              case rel => exact ⟨j + 1, by omega, by go_num, HBN.out⟩
            | true =>
              rw [hadj] at HNR hf
              have dne : (dz != da - 1) = true := by
                rw [Bool.true_and, decide_eq_false_iff_not] at hf
                simpa using hf
              clear hadj hf hnf hnt
              go_wp2_with fail
              refine wp_region_held_drew (S := (fun w' : World => w'.cell? ⟨w.heap.size, 0, none⟩ = some (.int .i64 (n : Int)) ∧ w'.cell? ⟨w.heap.size, 1, none⟩ = some (.slice A l.length c) ∧ w'.cell? ⟨gd, j, none⟩ = some (.slice (some ⟨gz, gzo, none⟩) n cz) ∧ w'.cell? ⟨gz, gzo + y, none⟩ = some (.int .i64 dz) ∧ w'.cell? ⟨gd, a, none⟩ = some (.slice (some ⟨ga, gao, none⟩) n ca) ∧ w'.cell? ⟨ga, gao + y, none⟩ = some (.int .i64 da))) (by kernel_rfl) (by (try dsimp only); simp [*]) (fun hHeld => ?_)
              change wpAnyH _ _ _ _ _ _ #[false, false, false, false, false, false, false, false, false, false, false, false, false, false, false, false, false, false, false, false, false, false, false] _ _
              refine wpAnyH_take (i := 0) (oi := ⟨some 43, _, _, _, _, _⟩) (v := ?_) rfl (by kernel_rfl) (by kernel_rfl) (by kernel_rfl) (fun _ _ _ h => h) (Or.inl ⟨by rfl, ?_⟩) (by assumption) ?_
              rotate_left
              · (intro w hSw; (try dsimp only at hSw); go_simp; (try (with_reducible rfl)))
              try simp only [Act.put, List.setIfInBounds_toArray, List.set_cons_zero, List.set_cons_succ]
              refine wpAnyH_take (i := 1) (oi := ⟨some 44, _, _, _, _, _⟩) (v := ?_) rfl (by kernel_rfl) (by kernel_rfl) (by kernel_rfl) (fun _ _ _ h => h) (Or.inl ⟨by rfl, ?_⟩) (by assumption) ?_
              rotate_left
              · (intro w hSw; (try dsimp only at hSw); go_simp; (try (with_reducible rfl)))
              try simp only [Act.put, List.setIfInBounds_toArray, List.set_cons_zero, List.set_cons_succ]
              refine wpAnyH_take (i := 2) (oi := ⟨some 45, _, _, _, _, _⟩) (v := ?_) rfl (by kernel_rfl) (by kernel_rfl) (by kernel_rfl) (fun _ _ _ h => h) (Or.inl ⟨by rfl, ?_⟩) (by assumption) ?_
              rotate_left
              · (intro w hSw; (try dsimp only at hSw); go_simp; (try (with_reducible rfl)))
              try simp only [Act.put, List.setIfInBounds_toArray, List.set_cons_zero, List.set_cons_succ]
              refine wpAnyH_ready (rs := [3]) (by kernel_rfl) (by simp) ?_
              refine AllReadyH.cons (o := ⟨some 46, _, _, _, _, _⟩) rfl (fun K hK => ?_) AllReadyH.nil
              go_simp
              refine (keep6 HNR.out (p := ⟨w.heap.size, 0, none⟩) (q := ⟨w.heap.size, 1, none⟩) (r := ⟨gd, j, none⟩) (s := ⟨gz, gzo + y, none⟩) (t := ⟨gd, a, none⟩) (u := ⟨ga, gao + y, none⟩) (a := .int .i64 (n : Int)) (b := .slice A l.length c) (c := .slice (some ⟨gz, gzo, none⟩) n cz) (d := .int .i64 dz) (e' := .slice (some ⟨ga, gao, none⟩) n ca) (f' := .int .i64 da) ?_ ?_ ?_ ?_ ?_ ?_).mono ?_; (simp [*]); (simp [*]); (simp [*]); (simp [*]); (simp [*]); (simp [*]); rintro e w5 ⟨rfl, k0, k1, k2, k3, k4, k5, b5⟩
              go_wp2_with fail
              refine hK.out _ _ (by (try dsimp only); simp [*]) (fun hHeld => ?_)
              clear hK K
              try simp only [List.setIfInBounds_toArray, List.set_cons_zero, List.set_cons_succ]
              refine wpAnyH_take (i := 4) (oi := ⟨some 47, _, _, _, _, _⟩) (v := ?_) rfl (by kernel_rfl) (by kernel_rfl) (by kernel_rfl) (fun _ _ _ h => h) (Or.inl ⟨by rfl, ?_⟩) (by assumption) ?_
              rotate_left
              · (intro w hSw; (try dsimp only at hSw); go_simp; (try (with_reducible rfl)))
              try simp only [Act.put, List.setIfInBounds_toArray, List.set_cons_zero, List.set_cons_succ]
              refine wpAnyH_take (i := 5) (oi := ⟨some 48, _, _, _, _, _⟩) (v := ?_) rfl (by kernel_rfl) (by kernel_rfl) (by kernel_rfl) (fun _ _ _ h => h) (Or.inl ⟨by rfl, ?_⟩) (by assumption) ?_
              rotate_left
              · (intro w hSw; (try dsimp only at hSw); go_simp; (try (with_reducible rfl)))
              try simp only [Act.put, List.setIfInBounds_toArray, List.set_cons_zero, List.set_cons_succ]
              refine wpAnyH_take (i := 6) (oi := ⟨some 49, _, _, _, _, _⟩) (v := ?_) rfl (by kernel_rfl) (by kernel_rfl) (by kernel_rfl) (fun _ _ _ h => h) (Or.inl ⟨by rfl, ?_⟩) (by assumption) ?_
              rotate_left
              · (intro w hSw; (try dsimp only at hSw); go_simp; (try (with_reducible rfl)))
              try simp only [Act.put, List.setIfInBounds_toArray, List.set_cons_zero, List.set_cons_succ]
              refine wpAnyH_take (i := 7) (oi := ⟨some 50, _, _, _, _, _⟩) (v := ?_) rfl (by kernel_rfl) (by kernel_rfl) (by kernel_rfl) (fun _ _ _ h => h) (Or.inl ⟨by rfl, ?_⟩) (by assumption) ?_
              rotate_left
              · (intro w hSw; (try dsimp only at hSw); go_simp; (try (with_reducible rfl)))
              try simp only [Act.put, List.setIfInBounds_toArray, List.set_cons_zero, List.set_cons_succ]
              refine wpAnyH_take (i := 8) (oi := ⟨some 51, _, _, _, _, _⟩) (v := ?_) rfl (by kernel_rfl) (by kernel_rfl) (by kernel_rfl) (fun _ _ _ h => h) (Or.inl ⟨by rfl, ?_⟩) (by assumption) ?_
              rotate_left
              · (intro w hSw; (try dsimp only at hSw); go_simp; (try (with_reducible rfl)))
              try simp only [Act.put, List.setIfInBounds_toArray, List.set_cons_zero, List.set_cons_succ]
              refine wpAnyH_take (i := 9) (oi := ⟨some 52, _, _, _, _, _⟩) (v := ?_) rfl (by kernel_rfl) (by kernel_rfl) (by kernel_rfl) (fun _ _ _ h => h) (Or.inl ⟨by rfl, ?_⟩) (by assumption) ?_
              rotate_left
              · (intro w hSw; (try dsimp only at hSw); go_simp; (try (with_reducible rfl)))
              try simp only [Act.put, List.setIfInBounds_toArray, List.set_cons_zero, List.set_cons_succ]
              refine wpAnyH_take (i := 10) (oi := ⟨some 53, _, _, _, _, _⟩) (v := ?_) rfl (by kernel_rfl) (by kernel_rfl) (by kernel_rfl) (fun _ _ _ h => h) (Or.inl ⟨by rfl, ?_⟩) (by assumption) ?_
              rotate_left
              · (intro w hSw; (try dsimp only at hSw); go_simp; (try (with_reducible rfl)))
              try simp only [Act.put, List.setIfInBounds_toArray, List.set_cons_zero, List.set_cons_succ]
              refine wpAnyH_take (i := 11) (oi := ⟨some 54, _, _, _, _, _⟩) (v := ?_) rfl (by kernel_rfl) (by kernel_rfl) (by kernel_rfl) (fun _ _ _ h => h) (Or.inl ⟨by rfl, ?_⟩) (by assumption) ?_
              rotate_left
              · (intro w hSw; (try dsimp only at hSw); go_simp; (try (with_reducible rfl)))
              try simp only [Act.put, List.setIfInBounds_toArray, List.set_cons_zero, List.set_cons_succ]
              refine wpAnyH_take (i := 12) (oi := ⟨some 55, _, _, _, _, _⟩) (v := ?_) rfl (by kernel_rfl) (by kernel_rfl) (by kernel_rfl) (fun _ _ _ h => h) (Or.inl ⟨by rfl, ?_⟩) (by assumption) ?_
              rotate_left
              · (intro w hSw; (try dsimp only at hSw); go_simp; (try (with_reducible rfl)))
              try simp only [Act.put, List.setIfInBounds_toArray, List.set_cons_zero, List.set_cons_succ]
              refine wpAnyH_take (i := 13) (oi := ⟨some 56, _, _, _, _, _⟩) (v := ?_) rfl (by kernel_rfl) (by kernel_rfl) (by kernel_rfl) (fun _ _ _ h => h) (Or.inl ⟨by rfl, ?_⟩) (by assumption) ?_
              rotate_left
              · (intro w hSw; (try dsimp only at hSw); go_simp; (try (with_reducible rfl)))
              try simp only [Act.put, List.setIfInBounds_toArray, List.set_cons_zero, List.set_cons_succ]
              refine wpAnyH_take (i := 14) (oi := ⟨some 57, _, _, _, _, _⟩) (v := ?_) rfl (by kernel_rfl) (by kernel_rfl) (by kernel_rfl) (fun _ _ _ h => h) (Or.inl ⟨by rfl, ?_⟩) (by assumption) ?_
              rotate_left
              · (intro w hSw; (try dsimp only at hSw); go_simp; (try (with_reducible rfl)))
              try simp only [Act.put, List.setIfInBounds_toArray, List.set_cons_zero, List.set_cons_succ]
              refine wpAnyH_take (i := 15) (oi := ⟨some 58, _, _, _, _, _⟩) (v := ?_) rfl (by kernel_rfl) (by kernel_rfl) (by kernel_rfl) (fun _ _ _ h => h) (Or.inl ⟨by rfl, ?_⟩) (by assumption) ?_
              rotate_left
              · (intro w hSw; (try dsimp only at hSw); go_simp; (try (with_reducible rfl)))
              try simp only [Act.put, List.setIfInBounds_toArray, List.set_cons_zero, List.set_cons_succ]
              refine wpAnyH_take (i := 16) (oi := ⟨some 59, _, _, _, _, _⟩) (v := ?_) rfl (by kernel_rfl) (by kernel_rfl) (by kernel_rfl) (fun _ _ _ h => h) (Or.inl ⟨by rfl, ?_⟩) (by assumption) ?_
              rotate_left
              · (intro w hSw; (try dsimp only at hSw); go_simp; (try (with_reducible rfl)))
              try simp only [Act.put, List.setIfInBounds_toArray, List.set_cons_zero, List.set_cons_succ]
              refine wpAnyH_take (i := 17) (oi := ⟨some 60, _, _, _, _, _⟩) (v := ?_) rfl (by kernel_rfl) (by kernel_rfl) (by kernel_rfl) (fun _ _ _ h => h) (Or.inl ⟨by rfl, ?_⟩) (by assumption) ?_
              rotate_left
              · (intro w hSw; (try dsimp only at hSw); go_simp; (try (with_reducible rfl)))
              try simp only [Act.put, List.setIfInBounds_toArray, List.set_cons_zero, List.set_cons_succ]
              refine wpAnyH_take (i := 18) (oi := ⟨some 61, _, _, _, _, _⟩) (v := ?_) rfl (by kernel_rfl) (by kernel_rfl) (by kernel_rfl) (fun _ _ _ h => h) (Or.inl ⟨by rfl, ?_⟩) (by assumption) ?_
              rotate_left
              · (intro w hSw; (try dsimp only at hSw); go_simp; (try (with_reducible rfl)))
              try simp only [Act.put, List.setIfInBounds_toArray, List.set_cons_zero, List.set_cons_succ]
              refine wpAnyH_take (i := 19) (oi := ⟨some 62, _, _, _, _, _⟩) (v := ?_) rfl (by kernel_rfl) (by kernel_rfl) (by kernel_rfl) (fun _ _ _ h => h) (Or.inl ⟨by rfl, ?_⟩) (by assumption) ?_
              rotate_left
              · (intro w hSw; (try dsimp only at hSw); go_simp; (try (with_reducible rfl)))
              try simp only [Act.put, List.setIfInBounds_toArray, List.set_cons_zero, List.set_cons_succ]
              refine wpAnyH_take (i := 20) (oi := ⟨some 63, _, _, _, _, _⟩) (v := ?_) rfl (by kernel_rfl) (by kernel_rfl) (by kernel_rfl) (fun _ _ _ h => h) (Or.inl ⟨by rfl, ?_⟩) (by assumption) ?_
              rotate_left
              · (intro w hSw; (try dsimp only at hSw); go_simp; (try (with_reducible rfl)))
              try simp only [Act.put, List.setIfInBounds_toArray, List.set_cons_zero, List.set_cons_succ]
              refine wpAnyH_take (i := 21) (oi := ⟨some 64, _, _, _, _, _⟩) (v := ?_) rfl (by kernel_rfl) (by kernel_rfl) (by kernel_rfl) (fun _ _ _ h => h) (Or.inl ⟨by rfl, ?_⟩) (by assumption) ?_
              rotate_left
              · (intro w hSw; (try dsimp only at hSw); go_simp; (try (with_reducible rfl)))
              try simp only [Act.put, List.setIfInBounds_toArray, List.set_cons_zero, List.set_cons_succ]
              refine wpAnyH_take (i := 22) (oi := ⟨some 65, _, _, _, _, _⟩) (v := ?_) rfl (by kernel_rfl) (by kernel_rfl) (by kernel_rfl) (fun _ _ _ h => h) (Or.inl ⟨by rfl, ?_⟩) (by assumption) ?_
              rotate_left
              · (intro w hSw; (try dsimp only at hSw); go_simp; (try (with_reducible rfl)))
              try simp only [Act.put, List.setIfInBounds_toArray, List.set_cons_zero, List.set_cons_succ]
              refine wpAnyH_done (by kernel_rfl) ?_ _
              have HBN := Lib.hid (btrans HBJ.out ((Below.refl _ _).drew.trans b5))
              clear b5 p0 p1 z5 z6 a5 a6 k0 k1 k2 k3 k4 k5
              go_wp2_with fail
              go_roundg g4
              case measure => omega
              case rel => exact ⟨j + 1, by omega, by go_num, HBN.out⟩
          · obtain rfl : j = z := by omega
            have ht := hnt rfl
            rw [Bool.and_eq_true, decide_eq_true_iff] at ht
            have dne : (dz != da - 1) = false := by simpa using ht.2
            rw [ht.1] at HNR
            clear hnt hnf ht
            go_wp2_with fail
            refine wp_region_held_drew (S := (fun w' : World => w'.cell? ⟨w.heap.size, 0, none⟩ = some (.int .i64 (n : Int)) ∧ w'.cell? ⟨w.heap.size, 1, none⟩ = some (.slice A l.length c) ∧ w'.cell? ⟨gd, j, none⟩ = some (.slice (some ⟨gz, gzo, none⟩) n cz) ∧ w'.cell? ⟨gz, gzo + y, none⟩ = some (.int .i64 dz) ∧ w'.cell? ⟨gd, a, none⟩ = some (.slice (some ⟨ga, gao, none⟩) n ca) ∧ w'.cell? ⟨ga, gao + y, none⟩ = some (.int .i64 da))) (by kernel_rfl) (by (try dsimp only); simp [*]) (fun hHeld => ?_)
            change wpAnyH _ _ _ _ _ _ #[false, false, false, false, false, false, false, false, false, false, false, false, false, false, false, false, false, false, false, false, false, false, false] _ _
            refine wpAnyH_take (i := 0) (oi := ⟨some 43, _, _, _, _, _⟩) (v := ?_) rfl (by kernel_rfl) (by kernel_rfl) (by kernel_rfl) (fun _ _ _ h => h) (Or.inl ⟨by rfl, ?_⟩) (by assumption) ?_
            rotate_left
            · (intro w hSw; (try dsimp only at hSw); go_simp; (try (with_reducible rfl)))
            try simp only [Act.put, List.setIfInBounds_toArray, List.set_cons_zero, List.set_cons_succ]
            refine wpAnyH_take (i := 1) (oi := ⟨some 44, _, _, _, _, _⟩) (v := ?_) rfl (by kernel_rfl) (by kernel_rfl) (by kernel_rfl) (fun _ _ _ h => h) (Or.inl ⟨by rfl, ?_⟩) (by assumption) ?_
            rotate_left
            · (intro w hSw; (try dsimp only at hSw); go_simp; (try (with_reducible rfl)))
            try simp only [Act.put, List.setIfInBounds_toArray, List.set_cons_zero, List.set_cons_succ]
            refine wpAnyH_take (i := 2) (oi := ⟨some 45, _, _, _, _, _⟩) (v := ?_) rfl (by kernel_rfl) (by kernel_rfl) (by kernel_rfl) (fun _ _ _ h => h) (Or.inl ⟨by rfl, ?_⟩) (by assumption) ?_
            rotate_left
            · (intro w hSw; (try dsimp only at hSw); go_simp; (try (with_reducible rfl)))
            try simp only [Act.put, List.setIfInBounds_toArray, List.set_cons_zero, List.set_cons_succ]
            refine wpAnyH_ready (rs := [3]) (by kernel_rfl) (by simp) ?_
            refine AllReadyH.cons (o := ⟨some 46, _, _, _, _, _⟩) rfl (fun K hK => ?_) AllReadyH.nil
            go_simp
            refine (keep6 HNR.out (p := ⟨w.heap.size, 0, none⟩) (q := ⟨w.heap.size, 1, none⟩) (r := ⟨gd, j, none⟩) (s := ⟨gz, gzo + y, none⟩) (t := ⟨gd, a, none⟩) (u := ⟨ga, gao + y, none⟩) (a := .int .i64 (n : Int)) (b := .slice A l.length c) (c := .slice (some ⟨gz, gzo, none⟩) n cz) (d := .int .i64 dz) (e' := .slice (some ⟨ga, gao, none⟩) n ca) (f' := .int .i64 da) ?_ ?_ ?_ ?_ ?_ ?_).mono ?_; (simp [*]); (simp [*]); (simp [*]); (simp [*]); (simp [*]); (simp [*]); rintro e w5 ⟨rfl, k0, k1, k2, k3, k4, k5, b5⟩
            go_wp2_with fail
            refine hK.out _ _ (by (try dsimp only); simp [*]) (fun hHeld => ?_)
            clear hK K
            try simp only [List.setIfInBounds_toArray, List.set_cons_zero, List.set_cons_succ]
            refine wpAnyH_take (i := 4) (oi := ⟨some 47, _, _, _, _, _⟩) (v := ?_) rfl (by kernel_rfl) (by kernel_rfl) (by kernel_rfl) (fun _ _ _ h => h) (Or.inl ⟨by rfl, ?_⟩) (by assumption) ?_
            rotate_left
            · (intro w hSw; (try dsimp only at hSw); go_simp; (try (with_reducible rfl)))
            try simp only [Act.put, List.setIfInBounds_toArray, List.set_cons_zero, List.set_cons_succ]
            refine wpAnyH_take (i := 5) (oi := ⟨some 48, _, _, _, _, _⟩) (v := ?_) rfl (by kernel_rfl) (by kernel_rfl) (by kernel_rfl) (fun _ _ _ h => h) (Or.inl ⟨by rfl, ?_⟩) (by assumption) ?_
            rotate_left
            · (intro w hSw; (try dsimp only at hSw); go_simp; (try (with_reducible rfl)))
            try simp only [Act.put, List.setIfInBounds_toArray, List.set_cons_zero, List.set_cons_succ]
            refine wpAnyH_take (i := 6) (oi := ⟨some 49, _, _, _, _, _⟩) (v := ?_) rfl (by kernel_rfl) (by kernel_rfl) (by kernel_rfl) (fun _ _ _ h => h) (Or.inl ⟨by rfl, ?_⟩) (by assumption) ?_
            rotate_left
            · (intro w hSw; (try dsimp only at hSw); go_simp; (try (with_reducible rfl)))
            try simp only [Act.put, List.setIfInBounds_toArray, List.set_cons_zero, List.set_cons_succ]
            refine wpAnyH_take (i := 7) (oi := ⟨some 50, _, _, _, _, _⟩) (v := ?_) rfl (by kernel_rfl) (by kernel_rfl) (by kernel_rfl) (fun _ _ _ h => h) (Or.inl ⟨by rfl, ?_⟩) (by assumption) ?_
            rotate_left
            · (intro w hSw; (try dsimp only at hSw); go_simp; (try (with_reducible rfl)))
            try simp only [Act.put, List.setIfInBounds_toArray, List.set_cons_zero, List.set_cons_succ]
            refine wpAnyH_take (i := 8) (oi := ⟨some 51, _, _, _, _, _⟩) (v := ?_) rfl (by kernel_rfl) (by kernel_rfl) (by kernel_rfl) (fun _ _ _ h => h) (Or.inl ⟨by rfl, ?_⟩) (by assumption) ?_
            rotate_left
            · (intro w hSw; (try dsimp only at hSw); go_simp; (try (with_reducible rfl)))
            try simp only [Act.put, List.setIfInBounds_toArray, List.set_cons_zero, List.set_cons_succ]
            refine wpAnyH_take (i := 9) (oi := ⟨some 52, _, _, _, _, _⟩) (v := ?_) rfl (by kernel_rfl) (by kernel_rfl) (by kernel_rfl) (fun _ _ _ h => h) (Or.inl ⟨by rfl, ?_⟩) (by assumption) ?_
            rotate_left
            · (intro w hSw; (try dsimp only at hSw); go_simp; (try (with_reducible rfl)))
            try simp only [Act.put, List.setIfInBounds_toArray, List.set_cons_zero, List.set_cons_succ]
            refine wpAnyH_take (i := 10) (oi := ⟨some 53, _, _, _, _, _⟩) (v := ?_) rfl (by kernel_rfl) (by kernel_rfl) (by kernel_rfl) (fun _ _ _ h => h) (Or.inl ⟨by rfl, ?_⟩) (by assumption) ?_
            rotate_left
            · (intro w hSw; (try dsimp only at hSw); go_simp; (try (with_reducible rfl)))
            try simp only [Act.put, List.setIfInBounds_toArray, List.set_cons_zero, List.set_cons_succ]
            refine wpAnyH_take (i := 11) (oi := ⟨some 54, _, _, _, _, _⟩) (v := ?_) rfl (by kernel_rfl) (by kernel_rfl) (by kernel_rfl) (fun _ _ _ h => h) (Or.inl ⟨by rfl, ?_⟩) (by assumption) ?_
            rotate_left
            · (intro w hSw; (try dsimp only at hSw); go_simp; (try (with_reducible rfl)))
            try simp only [Act.put, List.setIfInBounds_toArray, List.set_cons_zero, List.set_cons_succ]
            refine wpAnyH_take (i := 12) (oi := ⟨some 55, _, _, _, _, _⟩) (v := ?_) rfl (by kernel_rfl) (by kernel_rfl) (by kernel_rfl) (fun _ _ _ h => h) (Or.inl ⟨by rfl, ?_⟩) (by assumption) ?_
            rotate_left
            · (intro w hSw; (try dsimp only at hSw); go_simp; (try (with_reducible rfl)))
            try simp only [Act.put, List.setIfInBounds_toArray, List.set_cons_zero, List.set_cons_succ]
            refine wpAnyH_take (i := 13) (oi := ⟨some 56, _, _, _, _, _⟩) (v := ?_) rfl (by kernel_rfl) (by kernel_rfl) (by kernel_rfl) (fun _ _ _ h => h) (Or.inl ⟨by rfl, ?_⟩) (by assumption) ?_
            rotate_left
            · (intro w hSw; (try dsimp only at hSw); go_simp; (try (with_reducible rfl)))
            try simp only [Act.put, List.setIfInBounds_toArray, List.set_cons_zero, List.set_cons_succ]
            refine wpAnyH_take (i := 14) (oi := ⟨some 57, _, _, _, _, _⟩) (v := ?_) rfl (by kernel_rfl) (by kernel_rfl) (by kernel_rfl) (fun _ _ _ h => h) (Or.inl ⟨by rfl, ?_⟩) (by assumption) ?_
            rotate_left
            · (intro w hSw; (try dsimp only at hSw); go_simp; (try (with_reducible rfl)))
            try simp only [Act.put, List.setIfInBounds_toArray, List.set_cons_zero, List.set_cons_succ]
            refine wpAnyH_take (i := 15) (oi := ⟨some 58, _, _, _, _, _⟩) (v := ?_) rfl (by kernel_rfl) (by kernel_rfl) (by kernel_rfl) (fun _ _ _ h => h) (Or.inl ⟨by rfl, ?_⟩) (by assumption) ?_
            rotate_left
            · (intro w hSw; (try dsimp only at hSw); go_simp; (try (with_reducible rfl)))
            try simp only [Act.put, List.setIfInBounds_toArray, List.set_cons_zero, List.set_cons_succ]
            refine wpAnyH_take (i := 16) (oi := ⟨some 59, _, _, _, _, _⟩) (v := ?_) rfl (by kernel_rfl) (by kernel_rfl) (by kernel_rfl) (fun _ _ _ h => h) (Or.inl ⟨by rfl, ?_⟩) (by assumption) ?_
            rotate_left
            · (intro w hSw; (try dsimp only at hSw); go_simp; (try (with_reducible rfl)))
            try simp only [Act.put, List.setIfInBounds_toArray, List.set_cons_zero, List.set_cons_succ]
            refine wpAnyH_take (i := 17) (oi := ⟨some 60, _, _, _, _, _⟩) (v := ?_) rfl (by kernel_rfl) (by kernel_rfl) (by kernel_rfl) (fun _ _ _ h => h) (Or.inl ⟨by rfl, ?_⟩) (by assumption) ?_
            rotate_left
            · (intro w hSw; (try dsimp only at hSw); go_simp; (try (with_reducible rfl)))
            try simp only [Act.put, List.setIfInBounds_toArray, List.set_cons_zero, List.set_cons_succ]
            refine wpAnyH_take (i := 18) (oi := ⟨some 61, _, _, _, _, _⟩) (v := ?_) rfl (by kernel_rfl) (by kernel_rfl) (by kernel_rfl) (fun _ _ _ h => h) (Or.inl ⟨by rfl, ?_⟩) (by assumption) ?_
            rotate_left
            · (intro w hSw; (try dsimp only at hSw); go_simp; (try (with_reducible rfl)))
            try simp only [Act.put, List.setIfInBounds_toArray, List.set_cons_zero, List.set_cons_succ]
            refine wpAnyH_take (i := 19) (oi := ⟨some 62, _, _, _, _, _⟩) (v := ?_) rfl (by kernel_rfl) (by kernel_rfl) (by kernel_rfl) (fun _ _ _ h => h) (Or.inl ⟨by rfl, ?_⟩) (by assumption) ?_
            rotate_left
            · (intro w hSw; (try dsimp only at hSw); go_simp; (try (with_reducible rfl)))
            try simp only [Act.put, List.setIfInBounds_toArray, List.set_cons_zero, List.set_cons_succ]
            refine wpAnyH_take (i := 20) (oi := ⟨some 63, _, _, _, _, _⟩) (v := ?_) rfl (by kernel_rfl) (by kernel_rfl) (by kernel_rfl) (fun _ _ _ h => h) (Or.inl ⟨by rfl, ?_⟩) (by assumption) ?_
            rotate_left
            · (intro w hSw; (try dsimp only at hSw); go_simp; (try (with_reducible rfl)))
            try simp only [Act.put, List.setIfInBounds_toArray, List.set_cons_zero, List.set_cons_succ]
            refine wpAnyH_take (i := 21) (oi := ⟨some 64, _, _, _, _, _⟩) (v := ?_) rfl (by kernel_rfl) (by kernel_rfl) (by kernel_rfl) (fun _ _ _ h => h) (Or.inl ⟨by rfl, ?_⟩) (by assumption) ?_
            rotate_left
            · (intro w hSw; (try dsimp only at hSw); go_simp; (try (with_reducible rfl)))
            try simp only [Act.put, List.setIfInBounds_toArray, List.set_cons_zero, List.set_cons_succ]
            refine wpAnyH_take (i := 22) (oi := ⟨some 65, _, _, _, _, _⟩) (v := ?_) rfl (by kernel_rfl) (by kernel_rfl) (by kernel_rfl) (fun _ _ _ h => h) (Or.inl ⟨by rfl, ?_⟩) (by assumption) ?_
            rotate_left
            · (intro w hSw; (try dsimp only at hSw); go_simp; (try (with_reducible rfl)))
            try simp only [Act.put, List.setIfInBounds_toArray, List.set_cons_zero, List.set_cons_succ]
            refine wpAnyH_done (by kernel_rfl) ?_ _
            have HBN := Lib.hid (btrans HBJ.out ((Below.refl _ _).drew.trans b5))
            have hrow7 := own_below HROW.out HBN.out
            have hB7 := HB.out.trans (HBN.out.mono hsz)
            have hsz7 := hB7.size
            have hl9 : (wayT n (J1 l) y x k).length ≤ 8 := by have := HLEN.out; omega
            clear b5 p0 p1 z5 z6 a5 a6 k0 k1 k2 k3 k4 k5
            generalize wayT n (J1 l) y x k = wt at *
            go_wp2_with (at_builtin; refine wpList_append_own _ rfl _ _ 26 rfl (w4.heap.size) 3 i0 (.int .i64 0) 1 8 Try.underlying26 hi hz0 hz1 hz2 rfl (by decide) _ _ _ rfl (hrow7.alloc _) ⟨w5.heap.size, 0, none⟩ 1 1 [.int .i64 ((j : Int))] rfl rfl (cell_one_new _ _ _) (fun x hx => by simp at hx; subst hx; rfl) (by unfold maxLen; omega) (by omega) (by simp; omega) ?_; intro v2 w2 hown2 hgrow2 _)
            obtain ⟨hown3, hB2⟩ := push1 hrow7 hown2 hgrow2 hsz7
            rw [← HAS.out, ← HTS.out] at hown3
            have HO9 := Lib.hid hown3
            have HB9 := Lib.hid (hB7.trans hB2)
            clear hgrow2 hown2 hown3 hB2
            go_roundg g2
            case measure => omega
            case rel => exact ⟨k + 1, v2, rfl, by omega, by rw [HAS.out], HO9.out, HB9.out⟩
end Go.Proofs.Ytgbdgenlmmofeaa.way
