/- The contract of the model's l2Product. -/
import Derived.Handy
import Derived.Test.YtbdappkhkngdlaaNearV
import Derived.Test.YtbdappkhkngdlaaProdM
import Derived.Deep.DeepCutAuto
import Derived.Deep.RegionHeld3
namespace Go.Proofs.Ytbdappkhkngdlaa.prods
open Go.RowKit P2 words edges ints good near adjs fns gws rets mids nearv
set_option linter.unusedVariables false

theorem beq_cast2 (a b : Nat) : ((a : Int) == (b : Int)) = (a == b) := by
  rw [Bool.eq_iff_iff, beq_iff_eq, beq_iff_eq]; omega
theorem divs (a k : Nat) (ha : a ≤ 8) (h0 : 0 < k) (hk : k ≤ 8) : Int.tdiv (a : Int) (k : Int) = ((a / k : Nat) : Int) ∧ Int.tmod (a : Int) (k : Int) = ((a % k : Nat) : Int) ∧
    IntKind.i64.wrap ((a / k : Nat) : Int) = ((a / k : Nat) : Int) ∧ IntKind.i64.wrap ((a % k : Nat) : Int) = ((a % k : Nat) : Int) ∧ a / k ≤ 8 ∧ a % k ≤ 8 := by
  have v1 : a / k ≤ 8 := by have := Nat.div_le_self a k; omega
  have v2 : a % k ≤ 8 := by have := Nat.mod_lt a h0; omega
  refine ⟨by simp [Int.tdiv], by simp [Int.tmod], ?_, ?_, v1, v2⟩
  · generalize a / k = q at *
    exact IntWalk.i64_in _ (by omega)
  · generalize a % k = q at *
    exact IntWalk.i64_in _ (by omega)

set_option maxHeartbeats 4000000 in
set_option maxRecDepth 100000 in
theorem l2Product_any (both : Bool) (s t : Int) (v u : Value) (l m : List Ed) (w : World) (h : Edges w v l) (hl : l.length ≤ 1048576) (k : Edges w u m) (hm : m.length ≤ 1048576)
    (hs1 : -9223372036854775808 ≤ s) (hs2 : s ≤ 9223372036854775807) (ht1 : -9223372036854775808 ≤ t) (ht2 : t ≤ 9223372036854775807) :
    Calls Try.prog 80 #[.agg #[.int .i64 s, v], .agg #[.int .i64 t, u], .bool both] w (RetG w (ProdOk s t l m) (s * t) (prodL both s t l m)) := by
  obtain ⟨i0, hi, hz0, hz1, hz2⟩ := info_parts infoEd
  obtain ⟨A, c, rfl, -⟩ := h.form
  obtain ⟨A2, c2, rfl, -⟩ := k.form
  have H := Lib.hid h
  have HK := Lib.hid k
  have b0 : Below w.heap.size w (((w.alloc (.cells #[.int .i64 s, .slice A l.length c] 29)).alloc (.cells #[.int .i64 t, .slice A2 m.length c2] 29)).alloc (.cells #[.int .i64 0, .slice none 0 0] 29)) :=
    (((Below.refl _ _).alloc (Nat.le_refl _) _).alloc (by simp) _).alloc (by simp; omega) _
  have g0 := ((Blk.new w 29 #[.int .i64 s, .slice A l.length c]).alloc (.cells #[.int .i64 t, .slice A2 m.length c2] 29)).alloc (.cells #[.int .i64 0, .slice none 0 0] 29)
  have x0 := (Blk.new (w.alloc (.cells #[.int .i64 s, .slice A l.length c] 29)) 29 #[.int .i64 t, .slice A2 m.length c2]).alloc (.cells #[.int .i64 0, .slice none 0 0] 29)
  have r0 := Blk.new ((w.alloc (.cells #[.int .i64 s, .slice A l.length c] 29)).alloc (.cells #[.int .i64 t, .slice A2 m.length c2] 29)) 29 #[.int .i64 0, .slice none 0 0]
  simp only [World.size_alloc] at x0 r0
  have HG := Lib.hid (l2Good_any s _ l _ (h.below b0) hl hs1 hs2)
  clear h k
  by_cases hg : P2.Good s l
  · rw [goodB_yes hg] at HG
    by_cases hh : P2.Good t m
    · have HH : Hid (goodB t m = true) := goodB_yes hh
      obtain ⟨n, rfl⟩ : ∃ n : Nat, s = (n : Int) := ⟨s.toNat, by have := hg.1; omega⟩
      obtain ⟨k, rfl⟩ : ∃ k : Nat, t = (k : Int) := ⟨t.toNat, by have := hh.1; omega⟩
      have hn8 : n ≤ 8 := by have := hg.2.1; omega
      have hk8 : k ≤ 8 := by have := hh.2.1; omega
      have hP8 : n * k ≤ 8 * 8 := Nat.mul_le_mul hn8 hk8
      have hE : ((n : Int) * (k : Int)) = ((n * k : Nat) : Int) := by simp
      by_cases hp : n * k ≤ 8
      · have hOK : ProdOk (n : Int) (k : Int) l m := ⟨hg, hh, by rw [hE]; omega⟩
        have HGD := Lib.hid hOK
        have HL : Hid (gwTo (prodJ both l m k) (n * k) (n * k) = prodL both (n : Int) (k : Int) l m) := by
          show _ = _
          unfold prodL
          rw [show ((n : Int) * (k : Int)).toNat = n * k from by rw [hE]; exact Int.toNat_natCast _, Int.toNat_natCast]
          rfl
        have HPL := Lib.hid (fun (a : Nat) (h : a < n * k) => (pair_lt h).2.2)
        have HM : Hid (((n * k : Nat) : Int) = (n : Int) * (k : Int)) := hE.symm
        clear hg hh hOK
        generalize n * k = P at *
        have hP0 : (P : Int) ≤ 8 := by omega
        go_enter Try.func80, Try.ntmps80
        go_wp2_with fail
        refine HG.out.mono ?_
        rintro e w1 ⟨rfl, b1⟩
        have e_w1 := btrans b0 b1
        have g1 := g0.below b1 g0.lt
        have x1 := x0.below b1 x0.lt
        have r1 := r0.below b1 r0.lt
        obtain ⟨p0, p1, -, -⟩ := g1.two
        obtain ⟨m0, m1, -, -⟩ := x1.two
        clear b0 b1 g0 x0 r0
        go_wp2_with fail
        refine (l2Good_any _ (.slice A2 m.length c2) m w1 (HK.out.below e_w1) hm ht1 ht2).mono ?_
        rw [HH.out]
        rintro e w2 ⟨rfl, b2⟩
        have e_w2 := btrans e_w1 b2
        have g2 := g1.below b2 g1.lt
        have x2 := x1.below b2 x1.lt
        have r2 := r1.below b2 r1.lt
        clear p0 p1 m0 m1 g1 x1 r1 b2 e_w1
        obtain ⟨p0, p1, -, -⟩ := g2.two
        obtain ⟨m0, m1, -, -⟩ := x2.two
        obtain ⟨q0, q1, z0, z1⟩ := r2.two
        go_wp2_with fail
        have hs2' := r2.lt
        have M1 := Lib.hid (mid_new (P : Int) r2 e_w2 (by omega))
        have G1 := Lib.hid ((g2.alloc (.cells #[] 80)).alloc (.cells #[.int .i64 (P : Int), .slice (some ⟨w2.heap.size, 0, none⟩) 0 0] 29))
        have X1 := Lib.hid ((x2.alloc (.cells #[] 80)).alloc (.cells #[.int .i64 (P : Int), .slice (some ⟨w2.heap.size, 0, none⟩) 0 0] 29))
        have E1 := Lib.hid e_w2
        clear HG g2 x2 r2 e_w2 q0 q1 z0 z1
        go_wp2_with fail
        go_loopg [9] P (fun g i wr => ∃ x : Nat, x + g = P ∧ i = .int .i64 (x : Int) ∧ Mid w wr (w.heap.size + 1 + 1) (w2.heap.size + 1) (P : Int) (gwTo (prodJ both l m k) P x) ∧ Blk wr w.heap.size 29 #[.int .i64 (n : Int), .slice A l.length c] ∧ Blk wr (w.heap.size + 1) 29 #[.int .i64 (k : Int), .slice A2 m.length c2])
        case atStart => exact ⟨0, by omega, rfl, M1.out, G1.out, X1.out⟩
        case round =>
          obtain ⟨x, hxg, rfl, hmid, hgb, hxb⟩ := hrel
          have HM0 := Lib.hid hmid
          obtain ⟨A0, c0, bO, hr, bR, hB, h5⟩ := hmid
          obtain ⟨o0, o1, f0, f1⟩ := bO.two
          obtain ⟨j0, j1, -, -⟩ := hxb.two
          cases gk with
          | zero =>
            obtain rfl : x = P := by omega
            rw [HL.out] at hr bO o1
            have HD := Lib.hid (Mid.done (n := (x : Int)) hr bR hB h5.1)
            obtain ⟨q0, q1, z0, z1⟩ := bR.two
            clear bO hr bR hB h5 j0 j1
            go_wp2_with fail
            refine bodyPost_ret (v := .tuple #[.agg #[.int .i64 ((x : Int)), .slice A0 (prodL both (n : Int) (k : Int) l m).length c0], .bool true]) (by simp [results, Try.results80, go_sem, q0, q1]) rfl ((RetG.yes HGD.out HD.out.1 HD.out.2).congr Iff.rfl (fun _ => HM.out) (fun _ => rfl))
          | succ g =>
            have hxn : x < P := by omega
            have hxn' : (x : Int) < (P : Int) := by omega
            clear hr bR hB h5
            go_wp2_with fail
            go_loopg [10] (P - (x + 1)) (fun g2 i wr => ∃ y : Nat, y + g2 = P ∧ x < y ∧ i = .int .i64 (y : Int) ∧ Mid w wr (w.heap.size + 1 + 1) (w2.heap.size + 1) (P : Int) (gwTo (prodJ both l m k) P x ++ rowTo (prodJ both l m k) x y) ∧ Blk wr w.heap.size 29 #[.int .i64 (n : Int), .slice A l.length c] ∧ Blk wr (w.heap.size + 1) 29 #[.int .i64 (k : Int), .slice A2 m.length c2])
            case atStart => exact ⟨x + 1, by omega, by omega, by go_num, by rw [rowTo_start (prodJ both l m k) x (x + 1) (Nat.le_refl _), List.append_nil]; exact HM0.out, hgb, hxb⟩
            case round =>
              clear o0 o1 f0 f1 j0 j1 bO hgb hxb
              obtain ⟨y, hyg, hxy, rfl, hmid2, hgb2, hxb2⟩ := hrel
              obtain ⟨p0, p1, -, -⟩ := hgb2.two
              obtain ⟨j0, j1, -, -⟩ := hxb2.two
              have hM2 := Lib.hid hmid2
              obtain ⟨A3, c3, bO, _, _, hB0, _⟩ := hmid2
              obtain ⟨o0, o1, f0, f1⟩ := bO.two
              cases gk with
              | zero =>
                obtain rfl : y = P := by omega
                go_wp2_with fail
                go_roundg g
                case measure => omega
                case rel => exact ⟨x + 1, by omega, by go_num, by rw [gwTo_succ]; exact hM2.out, hgb2, hxb2⟩
              | succ g2 =>
                have hyn : y < P := by omega
                have hyn' : (y : Int) < (P : Int) := by omega
                have hlen := gwTo_len64 (prodJ both l m k) P x y hp (by omega) (by omega)
                have k0 := HPL.out x hxn
                have hkz : (k : Int) ≠ 0 := by omega
                have hkz2 : ((k : Int) == 0) = false := by simpa using hkz
                have hkp : (0 : Int) < (k : Int) := by omega
                obtain ⟨t1, t2, u1, u2, v1, v2⟩ := divs x k (by omega) k0 hk8
                obtain ⟨t3, t4, u3, u4, v3, v4⟩ := divs y k (by omega) k0 hk8
                have HJ : Hid (prodJ both l m k x y = ((((x / k == y / k) && adj m (x % k : Nat) (y % k : Nat)) || (adj l (x / k : Nat) (y / k : Nat) && (x % k == y % k))) || ((both && adj l (x / k : Nat) (y / k : Nat)) && adj m (x % k : Nat) (y % k : Nat)))) := rfl
                have HRY : Hid (prodJ both l m k x y = true → (gwTo (prodJ both l m k) P x ++ rowTo (prodJ both l m k) x y) ++ [((x : Int), (y : Int))] = gwTo (prodJ both l m k) P x ++ rowTo (prodJ both l m k) x (y + 1)) := fun hj => by rw [rowTo_yes hxy hj, List.append_assoc]
                have HRN : Hid (prodJ both l m k x y = false → rowTo (prodJ both l m k) x (y + 1) = rowTo (prodJ both l m k) x y) := fun hj => rowTo_no (x := x) hj
                generalize x / k = xq at *
                generalize x % k = xr at *
                generalize y / k = yq at *
                generalize y % k = yr at *
                have KK := Lib.hid (fun nq => (⟨hM2.out.call (below_drewN (Below.refl _ _) nq), hgb2, hxb2, below_drewN hB0 nq, p0, p1, j0, j1⟩ : Mid w (wr.drewN nq) _ _ _ _ ∧ Blk (wr.drewN nq) _ _ _ ∧ Blk (wr.drewN nq) _ _ _ ∧ Below _ _ (wr.drewN nq) ∧ (wr.drewN nq).cell? _ = _ ∧ (wr.drewN nq).cell? _ = _ ∧ (wr.drewN nq).cell? _ = _ ∧ (wr.drewN nq).cell? _ = _))
                clear hgb2 hxb2 bO hB0 hM2
                go_wp2_with fail
                go_quiet (fail)
                go_wp2_with fail
                clear t1 t2 t3 t4 u1 u2 u3 u4 p0 p1 j0 j1 o0 o1 f0 f1
                obtain ⟨hmid3, hgb3, hxb3, hB3, p0, p1, j0, j1⟩ := KK.out nq
                clear KK
                generalize wr.drewN nq = w5 at *
                have HN1 := Lib.hid (fun (W : World) (hW : Below w5.heap.size w5 W) => l2Near_any (n : Int) (xq : Int) (yq : Int) (.slice A l.length c) l W (H.out.below (btrans hB3 hW)) hl)
                have HN2 := Lib.hid (fun (W : World) (hW : Below w5.heap.size w5 W) => l2Near_any (k : Int) (xr : Int) (yr : Int) (.slice A2 m.length c2) m W (HK.out.below (btrans hB3 hW)) hm)
                have HM3 := Lib.hid hmid3
                have HB3 := Lib.hid hB3
                have y1 := hgb3.lt
                have y2 := hxb3.lt
                clear hmid3 hB3
                have HV1 : Hid (prodJ both l m k xq yq = prodJ both l m k xq yq) := rfl
                obtain ⟨one, h1⟩ : ∃ b, b = adj l (xq : Nat) (yq : Nat) := ⟨_, rfl⟩
                obtain ⟨two, h2⟩ : ∃ b, b = adj m (xr : Nat) (yr : Nat) := ⟨_, rfl⟩
                have HONE := Lib.hid h1
                have HTWO := Lib.hid h2
                rw [← h1] at HN1
                rw [← h2] at HN2
                clear h1 h2 HV1
                go_region_held3 (fun w' => w'.cell? ⟨w.heap.size, 0, none⟩ = some (.int .i64 (n : Int)) ∧ w'.cell? ⟨w.heap.size, 1, none⟩ = some (.slice A l.length c) ∧ w'.cell? ⟨w.heap.size + 1, 0, none⟩ = some (.int .i64 (k : Int)) ∧ w'.cell? ⟨w.heap.size + 1, 1, none⟩ = some (.slice A2 m.length c2)) (go_keep)
                  (first
                    | (go_at_call 94; have D1 : Below w5.heap.size w5 w5.drew := (Below.refl _ _).drew; (with_reducible refine (HN1.out w5.drew D1).mono ?_); rintro e w6 ⟨rfl, b6⟩; have d6 : Below w5.heap.size w5 w6 := D1.trans b6; have g6 := hgb3.below d6 hgb3.lt; have x6 := hxb3.below d6 hxb3.lt; obtain ⟨a0, a1, -, -⟩ := g6.two; obtain ⟨a2, a3, -, -⟩ := x6.two)
                    | (go_at_call 94; (with_reducible refine (HN2.out w6 d6).mono ?_); rintro e w7 ⟨rfl, b7⟩; have d7 : Below w5.heap.size w5 w7 := btrans d6 b7; have g7 := g6.below b7 g6.lt; have x7 := x6.below b7 x6.lt; obtain ⟨a4, a5, -, -⟩ := g7.two; obtain ⟨a6, a7, -, -⟩ := x7.two))
                have hM7 := Lib.hid (HM3.out.call d7)
                clear a0 a1 a2 a3 g6 x6 b6 b7 d6 hgb3 hxb3 p0 p1 j0 j1 HN1 HN2 HB3
                have HG7 := Lib.hid g7
                have HX7 := Lib.hid x7
                clear g7 x7
                cases e1 : (xq == yq) <;> cases two <;> cases one
                · cases e4 : (xr == yr) <;> cases both
                  · have f1 := (beq_cast2 xq yq).trans e1
                    have f4 := (beq_cast2 xr yr).trans e4
                    have HV : Hid (prodJ false l m k x y = false) := by
                      show _ = _
                      rw [HJ.out, e1, e4, ← HONE.out, ← HTWO.out]
                      rfl
                    clear HJ HONE HTWO
                    have HN := Lib.hid (HRN.out HV.out)
                    clear HRY HRN HV
                    go_wp2_with fail
                    go_roundg g2
                    case measure => omega
                    case rel => exact ⟨y + 1, by omega, by omega, by go_num, by rw [HN.out]; exact hM7.out, HG7.out, HX7.out⟩
                  · have f1 := (beq_cast2 xq yq).trans e1
                    have f4 := (beq_cast2 xr yr).trans e4
                    have HV : Hid (prodJ true l m k x y = false) := by
                      show _ = _
                      rw [HJ.out, e1, e4, ← HONE.out, ← HTWO.out]
                      rfl
                    clear HJ HONE HTWO
                    have HN := Lib.hid (HRN.out HV.out)
                    clear HRY HRN HV
                    go_wp2_with fail
                    go_roundg g2
                    case measure => omega
                    case rel => exact ⟨y + 1, by omega, by omega, by go_num, by rw [HN.out]; exact hM7.out, HG7.out, HX7.out⟩
                  · have f1 := (beq_cast2 xq yq).trans e1
                    have f4 := (beq_cast2 xr yr).trans e4
                    have HV : Hid (prodJ false l m k x y = false) := by
                      show _ = _
                      rw [HJ.out, e1, e4, ← HONE.out, ← HTWO.out]
                      rfl
                    clear HJ HONE HTWO
                    have HN := Lib.hid (HRN.out HV.out)
                    clear HRY HRN HV
                    go_wp2_with fail
                    go_roundg g2
                    case measure => omega
                    case rel => exact ⟨y + 1, by omega, by omega, by go_num, by rw [HN.out]; exact hM7.out, HG7.out, HX7.out⟩
                  · have f1 := (beq_cast2 xq yq).trans e1
                    have f4 := (beq_cast2 xr yr).trans e4
                    have HV : Hid (prodJ true l m k x y = false) := by
                      show _ = _
                      rw [HJ.out, e1, e4, ← HONE.out, ← HTWO.out]
                      rfl
                    clear HJ HONE HTWO
                    have HN := Lib.hid (HRN.out HV.out)
                    clear HRY HRN HV
                    go_wp2_with fail
                    go_roundg g2
                    case measure => omega
                    case rel => exact ⟨y + 1, by omega, by omega, by go_num, by rw [HN.out]; exact hM7.out, HG7.out, HX7.out⟩
                · cases e4 : (xr == yr) <;> cases both
                  · have f1 := (beq_cast2 xq yq).trans e1
                    have f4 := (beq_cast2 xr yr).trans e4
                    have HV : Hid (prodJ false l m k x y = false) := by
                      show _ = _
                      rw [HJ.out, e1, e4, ← HONE.out, ← HTWO.out]
                      rfl
                    clear HJ HONE HTWO
                    have HN := Lib.hid (HRN.out HV.out)
                    clear HRY HRN HV
                    go_wp2_with fail
                    go_roundg g2
                    case measure => omega
                    case rel => exact ⟨y + 1, by omega, by omega, by go_num, by rw [HN.out]; exact hM7.out, HG7.out, HX7.out⟩
                  · have f1 := (beq_cast2 xq yq).trans e1
                    have f4 := (beq_cast2 xr yr).trans e4
                    have HV : Hid (prodJ true l m k x y = false) := by
                      show _ = _
                      rw [HJ.out, e1, e4, ← HONE.out, ← HTWO.out]
                      rfl
                    clear HJ HONE HTWO
                    have HN := Lib.hid (HRN.out HV.out)
                    clear HRY HRN HV
                    go_wp2_with fail
                    go_roundg g2
                    case measure => omega
                    case rel => exact ⟨y + 1, by omega, by omega, by go_num, by rw [HN.out]; exact hM7.out, HG7.out, HX7.out⟩
                  · have f1 := (beq_cast2 xq yq).trans e1
                    have f4 := (beq_cast2 xr yr).trans e4
                    have HV : Hid (prodJ false l m k x y = true) := by
                      show _ = _
                      rw [HJ.out, e1, e4, ← HONE.out, ← HTWO.out]
                      rfl
                    clear HJ HONE HTWO
                    have HN := Lib.hid (HRY.out HV.out)
                    clear HRY HRN HV
                    generalize gwTo (prodJ false l m k) P x ++ rowTo (prodJ false l m k) x y = ml at *
                    have g7 := HG7.out
                    have x7 := HX7.out
                    obtain ⟨A4, c4, bO, hr, bR, hB, h5⟩ := hM7.out
                    obtain ⟨o0, o1, f0, f2⟩ := bO.two
                    have hsO := bO.lt
                    have hsz := hB.size
                    have HB := Lib.hid hB
                    have H5 := Lib.hid h5
                    clear hB h5
                    go_wp2_with (at_builtin; refine wpList_append_own _ rfl _ _ 22 rfl w.heap.size 80 i0 (.agg #[.int .i64 0, .int .i64 0]) 2 16 Try.underlying22 hi hz0 hz1 hz2 rfl (by decide) _ _ _ rfl (hr.alloc _) ⟨w7.heap.size, 0, none⟩ 1 1 [.int .i64 (x : Int), .int .i64 (y : Int)] rfl rfl (cell_two_new _ _ _ _) (fun x hx => by simp at hx; rcases hx with rfl | rfl <;> rfl) (by unfold maxLen; omega) (by omega) (by simp; omega) ?_; intro v2 w8 hown2 hgrow2 _; have hg8 := Lib.hid (fun u => push_blk (O := w2.heap.size + 1) (u := u) hr g7 tne hgrow2 (by have := H5.out; have := E1.out.size; omega)); have hx8 := Lib.hid (fun u => push_blk (O := w2.heap.size + 1) (u := u) hr x7 tne hgrow2 (by have := H5.out; have := E1.out.size; omega)); obtain ⟨A5, c5, rfl, hm2, hk2⟩ := Mid.push bO hr bR HB.out H5.out hown2 rfl hgrow2; obtain ⟨t0, t1, y3, y4⟩ := hk2.two; have HM2 := Lib.hid hm2; clear hown2 hgrow2 hm2 hk2 bO hr bR g7 x7 o0 o1 f0 f2)
                    go_roundg g2
                    case measure => omega
                    case rel => exact ⟨y + 1, by omega, by omega, by go_num, by rw [← HN.out]; exact HM2.out, hg8.out _, hx8.out _⟩
                  · have f1 := (beq_cast2 xq yq).trans e1
                    have f4 := (beq_cast2 xr yr).trans e4
                    have HV : Hid (prodJ true l m k x y = true) := by
                      show _ = _
                      rw [HJ.out, e1, e4, ← HONE.out, ← HTWO.out]
                      rfl
                    clear HJ HONE HTWO
                    have HN := Lib.hid (HRY.out HV.out)
                    clear HRY HRN HV
                    generalize gwTo (prodJ true l m k) P x ++ rowTo (prodJ true l m k) x y = ml at *
                    have g7 := HG7.out
                    have x7 := HX7.out
                    obtain ⟨A4, c4, bO, hr, bR, hB, h5⟩ := hM7.out
                    obtain ⟨o0, o1, f0, f2⟩ := bO.two
                    have hsO := bO.lt
                    have hsz := hB.size
                    have HB := Lib.hid hB
                    have H5 := Lib.hid h5
                    clear hB h5
                    go_wp2_with (at_builtin; refine wpList_append_own _ rfl _ _ 22 rfl w.heap.size 80 i0 (.agg #[.int .i64 0, .int .i64 0]) 2 16 Try.underlying22 hi hz0 hz1 hz2 rfl (by decide) _ _ _ rfl (hr.alloc _) ⟨w7.heap.size, 0, none⟩ 1 1 [.int .i64 (x : Int), .int .i64 (y : Int)] rfl rfl (cell_two_new _ _ _ _) (fun x hx => by simp at hx; rcases hx with rfl | rfl <;> rfl) (by unfold maxLen; omega) (by omega) (by simp; omega) ?_; intro v2 w8 hown2 hgrow2 _; have hg8 := Lib.hid (fun u => push_blk (O := w2.heap.size + 1) (u := u) hr g7 tne hgrow2 (by have := H5.out; have := E1.out.size; omega)); have hx8 := Lib.hid (fun u => push_blk (O := w2.heap.size + 1) (u := u) hr x7 tne hgrow2 (by have := H5.out; have := E1.out.size; omega)); obtain ⟨A5, c5, rfl, hm2, hk2⟩ := Mid.push bO hr bR HB.out H5.out hown2 rfl hgrow2; obtain ⟨t0, t1, y3, y4⟩ := hk2.two; have HM2 := Lib.hid hm2; clear hown2 hgrow2 hm2 hk2 bO hr bR g7 x7 o0 o1 f0 f2)
                    go_roundg g2
                    case measure => omega
                    case rel => exact ⟨y + 1, by omega, by omega, by go_num, by rw [← HN.out]; exact HM2.out, hg8.out _, hx8.out _⟩
                · cases e4 : (xr == yr) <;> cases both
                  · have f1 := (beq_cast2 xq yq).trans e1
                    have f4 := (beq_cast2 xr yr).trans e4
                    have HV : Hid (prodJ false l m k x y = false) := by
                      show _ = _
                      rw [HJ.out, e1, e4, ← HONE.out, ← HTWO.out]
                      rfl
                    clear HJ HONE HTWO
                    have HN := Lib.hid (HRN.out HV.out)
                    clear HRY HRN HV
                    go_wp2_with fail
                    go_roundg g2
                    case measure => omega
                    case rel => exact ⟨y + 1, by omega, by omega, by go_num, by rw [HN.out]; exact hM7.out, HG7.out, HX7.out⟩
                  · have f1 := (beq_cast2 xq yq).trans e1
                    have f4 := (beq_cast2 xr yr).trans e4
                    have HV : Hid (prodJ true l m k x y = false) := by
                      show _ = _
                      rw [HJ.out, e1, e4, ← HONE.out, ← HTWO.out]
                      rfl
                    clear HJ HONE HTWO
                    have HN := Lib.hid (HRN.out HV.out)
                    clear HRY HRN HV
                    go_wp2_with fail
                    go_roundg g2
                    case measure => omega
                    case rel => exact ⟨y + 1, by omega, by omega, by go_num, by rw [HN.out]; exact hM7.out, HG7.out, HX7.out⟩
                  · have f1 := (beq_cast2 xq yq).trans e1
                    have f4 := (beq_cast2 xr yr).trans e4
                    have HV : Hid (prodJ false l m k x y = false) := by
                      show _ = _
                      rw [HJ.out, e1, e4, ← HONE.out, ← HTWO.out]
                      rfl
                    clear HJ HONE HTWO
                    have HN := Lib.hid (HRN.out HV.out)
                    clear HRY HRN HV
                    go_wp2_with fail
                    go_roundg g2
                    case measure => omega
                    case rel => exact ⟨y + 1, by omega, by omega, by go_num, by rw [HN.out]; exact hM7.out, HG7.out, HX7.out⟩
                  · have f1 := (beq_cast2 xq yq).trans e1
                    have f4 := (beq_cast2 xr yr).trans e4
                    have HV : Hid (prodJ true l m k x y = false) := by
                      show _ = _
                      rw [HJ.out, e1, e4, ← HONE.out, ← HTWO.out]
                      rfl
                    clear HJ HONE HTWO
                    have HN := Lib.hid (HRN.out HV.out)
                    clear HRY HRN HV
                    go_wp2_with fail
                    go_roundg g2
                    case measure => omega
                    case rel => exact ⟨y + 1, by omega, by omega, by go_num, by rw [HN.out]; exact hM7.out, HG7.out, HX7.out⟩
                · cases e4 : (xr == yr) <;> cases both
                  · have f1 := (beq_cast2 xq yq).trans e1
                    have f4 := (beq_cast2 xr yr).trans e4
                    have HV : Hid (prodJ false l m k x y = false) := by
                      show _ = _
                      rw [HJ.out, e1, e4, ← HONE.out, ← HTWO.out]
                      rfl
                    clear HJ HONE HTWO
                    have HN := Lib.hid (HRN.out HV.out)
                    clear HRY HRN HV
                    go_wp2_with fail
                    go_roundg g2
                    case measure => omega
                    case rel => exact ⟨y + 1, by omega, by omega, by go_num, by rw [HN.out]; exact hM7.out, HG7.out, HX7.out⟩
                  · have f1 := (beq_cast2 xq yq).trans e1
                    have f4 := (beq_cast2 xr yr).trans e4
                    have HV : Hid (prodJ true l m k x y = true) := by
                      show _ = _
                      rw [HJ.out, e1, e4, ← HONE.out, ← HTWO.out]
                      rfl
                    clear HJ HONE HTWO
                    have HN := Lib.hid (HRY.out HV.out)
                    clear HRY HRN HV
                    generalize gwTo (prodJ true l m k) P x ++ rowTo (prodJ true l m k) x y = ml at *
                    have g7 := HG7.out
                    have x7 := HX7.out
                    obtain ⟨A4, c4, bO, hr, bR, hB, h5⟩ := hM7.out
                    obtain ⟨o0, o1, f0, f2⟩ := bO.two
                    have hsO := bO.lt
                    have hsz := hB.size
                    have HB := Lib.hid hB
                    have H5 := Lib.hid h5
                    clear hB h5
                    go_wp2_with (at_builtin; refine wpList_append_own _ rfl _ _ 22 rfl w.heap.size 80 i0 (.agg #[.int .i64 0, .int .i64 0]) 2 16 Try.underlying22 hi hz0 hz1 hz2 rfl (by decide) _ _ _ rfl (hr.alloc _) ⟨w7.heap.size, 0, none⟩ 1 1 [.int .i64 (x : Int), .int .i64 (y : Int)] rfl rfl (cell_two_new _ _ _ _) (fun x hx => by simp at hx; rcases hx with rfl | rfl <;> rfl) (by unfold maxLen; omega) (by omega) (by simp; omega) ?_; intro v2 w8 hown2 hgrow2 _; have hg8 := Lib.hid (fun u => push_blk (O := w2.heap.size + 1) (u := u) hr g7 tne hgrow2 (by have := H5.out; have := E1.out.size; omega)); have hx8 := Lib.hid (fun u => push_blk (O := w2.heap.size + 1) (u := u) hr x7 tne hgrow2 (by have := H5.out; have := E1.out.size; omega)); obtain ⟨A5, c5, rfl, hm2, hk2⟩ := Mid.push bO hr bR HB.out H5.out hown2 rfl hgrow2; obtain ⟨t0, t1, y3, y4⟩ := hk2.two; have HM2 := Lib.hid hm2; clear hown2 hgrow2 hm2 hk2 bO hr bR g7 x7 o0 o1 f0 f2)
                    go_roundg g2
                    case measure => omega
                    case rel => exact ⟨y + 1, by omega, by omega, by go_num, by rw [← HN.out]; exact HM2.out, hg8.out _, hx8.out _⟩
                  · have f1 := (beq_cast2 xq yq).trans e1
                    have f4 := (beq_cast2 xr yr).trans e4
                    have HV : Hid (prodJ false l m k x y = true) := by
                      show _ = _
                      rw [HJ.out, e1, e4, ← HONE.out, ← HTWO.out]
                      rfl
                    clear HJ HONE HTWO
                    have HN := Lib.hid (HRY.out HV.out)
                    clear HRY HRN HV
                    generalize gwTo (prodJ false l m k) P x ++ rowTo (prodJ false l m k) x y = ml at *
                    have g7 := HG7.out
                    have x7 := HX7.out
                    obtain ⟨A4, c4, bO, hr, bR, hB, h5⟩ := hM7.out
                    obtain ⟨o0, o1, f0, f2⟩ := bO.two
                    have hsO := bO.lt
                    have hsz := hB.size
                    have HB := Lib.hid hB
                    have H5 := Lib.hid h5
                    clear hB h5
                    go_wp2_with (at_builtin; refine wpList_append_own _ rfl _ _ 22 rfl w.heap.size 80 i0 (.agg #[.int .i64 0, .int .i64 0]) 2 16 Try.underlying22 hi hz0 hz1 hz2 rfl (by decide) _ _ _ rfl (hr.alloc _) ⟨w7.heap.size, 0, none⟩ 1 1 [.int .i64 (x : Int), .int .i64 (y : Int)] rfl rfl (cell_two_new _ _ _ _) (fun x hx => by simp at hx; rcases hx with rfl | rfl <;> rfl) (by unfold maxLen; omega) (by omega) (by simp; omega) ?_; intro v2 w8 hown2 hgrow2 _; have hg8 := Lib.hid (fun u => push_blk (O := w2.heap.size + 1) (u := u) hr g7 tne hgrow2 (by have := H5.out; have := E1.out.size; omega)); have hx8 := Lib.hid (fun u => push_blk (O := w2.heap.size + 1) (u := u) hr x7 tne hgrow2 (by have := H5.out; have := E1.out.size; omega)); obtain ⟨A5, c5, rfl, hm2, hk2⟩ := Mid.push bO hr bR HB.out H5.out hown2 rfl hgrow2; obtain ⟨t0, t1, y3, y4⟩ := hk2.two; have HM2 := Lib.hid hm2; clear hown2 hgrow2 hm2 hk2 bO hr bR g7 x7 o0 o1 f0 f2)
                    go_roundg g2
                    case measure => omega
                    case rel => exact ⟨y + 1, by omega, by omega, by go_num, by rw [← HN.out]; exact HM2.out, hg8.out _, hx8.out _⟩
                  · have f1 := (beq_cast2 xq yq).trans e1
                    have f4 := (beq_cast2 xr yr).trans e4
                    have HV : Hid (prodJ true l m k x y = true) := by
                      show _ = _
                      rw [HJ.out, e1, e4, ← HONE.out, ← HTWO.out]
                      rfl
                    clear HJ HONE HTWO
                    have HN := Lib.hid (HRY.out HV.out)
                    clear HRY HRN HV
                    generalize gwTo (prodJ true l m k) P x ++ rowTo (prodJ true l m k) x y = ml at *
                    have g7 := HG7.out
                    have x7 := HX7.out
                    obtain ⟨A4, c4, bO, hr, bR, hB, h5⟩ := hM7.out
                    obtain ⟨o0, o1, f0, f2⟩ := bO.two
                    have hsO := bO.lt
                    have hsz := hB.size
                    have HB := Lib.hid hB
                    have H5 := Lib.hid h5
                    clear hB h5
                    go_wp2_with (at_builtin; refine wpList_append_own _ rfl _ _ 22 rfl w.heap.size 80 i0 (.agg #[.int .i64 0, .int .i64 0]) 2 16 Try.underlying22 hi hz0 hz1 hz2 rfl (by decide) _ _ _ rfl (hr.alloc _) ⟨w7.heap.size, 0, none⟩ 1 1 [.int .i64 (x : Int), .int .i64 (y : Int)] rfl rfl (cell_two_new _ _ _ _) (fun x hx => by simp at hx; rcases hx with rfl | rfl <;> rfl) (by unfold maxLen; omega) (by omega) (by simp; omega) ?_; intro v2 w8 hown2 hgrow2 _; have hg8 := Lib.hid (fun u => push_blk (O := w2.heap.size + 1) (u := u) hr g7 tne hgrow2 (by have := H5.out; have := E1.out.size; omega)); have hx8 := Lib.hid (fun u => push_blk (O := w2.heap.size + 1) (u := u) hr x7 tne hgrow2 (by have := H5.out; have := E1.out.size; omega)); obtain ⟨A5, c5, rfl, hm2, hk2⟩ := Mid.push bO hr bR HB.out H5.out hown2 rfl hgrow2; obtain ⟨t0, t1, y3, y4⟩ := hk2.two; have HM2 := Lib.hid hm2; clear hown2 hgrow2 hm2 hk2 bO hr bR g7 x7 o0 o1 f0 f2)
                    go_roundg g2
                    case measure => omega
                    case rel => exact ⟨y + 1, by omega, by omega, by go_num, by rw [← HN.out]; exact HM2.out, hg8.out _, hx8.out _⟩
                · cases e4 : (xr == yr) <;> cases both
                  · have f1 := (beq_cast2 xq yq).trans e1
                    have f4 := (beq_cast2 xr yr).trans e4
                    have HV : Hid (prodJ false l m k x y = false) := by
                      show _ = _
                      rw [HJ.out, e1, e4, ← HONE.out, ← HTWO.out]
                      rfl
                    clear HJ HONE HTWO
                    have HN := Lib.hid (HRN.out HV.out)
                    clear HRY HRN HV
                    go_wp2_with fail
                    go_roundg g2
                    case measure => omega
                    case rel => exact ⟨y + 1, by omega, by omega, by go_num, by rw [HN.out]; exact hM7.out, HG7.out, HX7.out⟩
                  · have f1 := (beq_cast2 xq yq).trans e1
                    have f4 := (beq_cast2 xr yr).trans e4
                    have HV : Hid (prodJ true l m k x y = false) := by
                      show _ = _
                      rw [HJ.out, e1, e4, ← HONE.out, ← HTWO.out]
                      rfl
                    clear HJ HONE HTWO
                    have HN := Lib.hid (HRN.out HV.out)
                    clear HRY HRN HV
                    go_wp2_with fail
                    go_roundg g2
                    case measure => omega
                    case rel => exact ⟨y + 1, by omega, by omega, by go_num, by rw [HN.out]; exact hM7.out, HG7.out, HX7.out⟩
                  · have f1 := (beq_cast2 xq yq).trans e1
                    have f4 := (beq_cast2 xr yr).trans e4
                    have HV : Hid (prodJ false l m k x y = false) := by
                      show _ = _
                      rw [HJ.out, e1, e4, ← HONE.out, ← HTWO.out]
                      rfl
                    clear HJ HONE HTWO
                    have HN := Lib.hid (HRN.out HV.out)
                    clear HRY HRN HV
                    go_wp2_with fail
                    go_roundg g2
                    case measure => omega
                    case rel => exact ⟨y + 1, by omega, by omega, by go_num, by rw [HN.out]; exact hM7.out, HG7.out, HX7.out⟩
                  · have f1 := (beq_cast2 xq yq).trans e1
                    have f4 := (beq_cast2 xr yr).trans e4
                    have HV : Hid (prodJ true l m k x y = false) := by
                      show _ = _
                      rw [HJ.out, e1, e4, ← HONE.out, ← HTWO.out]
                      rfl
                    clear HJ HONE HTWO
                    have HN := Lib.hid (HRN.out HV.out)
                    clear HRY HRN HV
                    go_wp2_with fail
                    go_roundg g2
                    case measure => omega
                    case rel => exact ⟨y + 1, by omega, by omega, by go_num, by rw [HN.out]; exact hM7.out, HG7.out, HX7.out⟩
                · cases e4 : (xr == yr) <;> cases both
                  · have f1 := (beq_cast2 xq yq).trans e1
                    have f4 := (beq_cast2 xr yr).trans e4
                    have HV : Hid (prodJ false l m k x y = false) := by
                      show _ = _
                      rw [HJ.out, e1, e4, ← HONE.out, ← HTWO.out]
                      rfl
                    clear HJ HONE HTWO
                    have HN := Lib.hid (HRN.out HV.out)
                    clear HRY HRN HV
                    go_wp2_with fail
                    go_roundg g2
                    case measure => omega
                    case rel => exact ⟨y + 1, by omega, by omega, by go_num, by rw [HN.out]; exact hM7.out, HG7.out, HX7.out⟩
                  · have f1 := (beq_cast2 xq yq).trans e1
                    have f4 := (beq_cast2 xr yr).trans e4
                    have HV : Hid (prodJ true l m k x y = false) := by
                      show _ = _
                      rw [HJ.out, e1, e4, ← HONE.out, ← HTWO.out]
                      rfl
                    clear HJ HONE HTWO
                    have HN := Lib.hid (HRN.out HV.out)
                    clear HRY HRN HV
                    go_wp2_with fail
                    go_roundg g2
                    case measure => omega
                    case rel => exact ⟨y + 1, by omega, by omega, by go_num, by rw [HN.out]; exact hM7.out, HG7.out, HX7.out⟩
                  · have f1 := (beq_cast2 xq yq).trans e1
                    have f4 := (beq_cast2 xr yr).trans e4
                    have HV : Hid (prodJ false l m k x y = true) := by
                      show _ = _
                      rw [HJ.out, e1, e4, ← HONE.out, ← HTWO.out]
                      rfl
                    clear HJ HONE HTWO
                    have HN := Lib.hid (HRY.out HV.out)
                    clear HRY HRN HV
                    generalize gwTo (prodJ false l m k) P x ++ rowTo (prodJ false l m k) x y = ml at *
                    have g7 := HG7.out
                    have x7 := HX7.out
                    obtain ⟨A4, c4, bO, hr, bR, hB, h5⟩ := hM7.out
                    obtain ⟨o0, o1, f0, f2⟩ := bO.two
                    have hsO := bO.lt
                    have hsz := hB.size
                    have HB := Lib.hid hB
                    have H5 := Lib.hid h5
                    clear hB h5
                    go_wp2_with (at_builtin; refine wpList_append_own _ rfl _ _ 22 rfl w.heap.size 80 i0 (.agg #[.int .i64 0, .int .i64 0]) 2 16 Try.underlying22 hi hz0 hz1 hz2 rfl (by decide) _ _ _ rfl (hr.alloc _) ⟨w7.heap.size, 0, none⟩ 1 1 [.int .i64 (x : Int), .int .i64 (y : Int)] rfl rfl (cell_two_new _ _ _ _) (fun x hx => by simp at hx; rcases hx with rfl | rfl <;> rfl) (by unfold maxLen; omega) (by omega) (by simp; omega) ?_; intro v2 w8 hown2 hgrow2 _; have hg8 := Lib.hid (fun u => push_blk (O := w2.heap.size + 1) (u := u) hr g7 tne hgrow2 (by have := H5.out; have := E1.out.size; omega)); have hx8 := Lib.hid (fun u => push_blk (O := w2.heap.size + 1) (u := u) hr x7 tne hgrow2 (by have := H5.out; have := E1.out.size; omega)); obtain ⟨A5, c5, rfl, hm2, hk2⟩ := Mid.push bO hr bR HB.out H5.out hown2 rfl hgrow2; obtain ⟨t0, t1, y3, y4⟩ := hk2.two; have HM2 := Lib.hid hm2; clear hown2 hgrow2 hm2 hk2 bO hr bR g7 x7 o0 o1 f0 f2)
                    go_roundg g2
                    case measure => omega
                    case rel => exact ⟨y + 1, by omega, by omega, by go_num, by rw [← HN.out]; exact HM2.out, hg8.out _, hx8.out _⟩
                  · have f1 := (beq_cast2 xq yq).trans e1
                    have f4 := (beq_cast2 xr yr).trans e4
                    have HV : Hid (prodJ true l m k x y = true) := by
                      show _ = _
                      rw [HJ.out, e1, e4, ← HONE.out, ← HTWO.out]
                      rfl
                    clear HJ HONE HTWO
                    have HN := Lib.hid (HRY.out HV.out)
                    clear HRY HRN HV
                    generalize gwTo (prodJ true l m k) P x ++ rowTo (prodJ true l m k) x y = ml at *
                    have g7 := HG7.out
                    have x7 := HX7.out
                    obtain ⟨A4, c4, bO, hr, bR, hB, h5⟩ := hM7.out
                    obtain ⟨o0, o1, f0, f2⟩ := bO.two
                    have hsO := bO.lt
                    have hsz := hB.size
                    have HB := Lib.hid hB
                    have H5 := Lib.hid h5
                    clear hB h5
                    go_wp2_with (at_builtin; refine wpList_append_own _ rfl _ _ 22 rfl w.heap.size 80 i0 (.agg #[.int .i64 0, .int .i64 0]) 2 16 Try.underlying22 hi hz0 hz1 hz2 rfl (by decide) _ _ _ rfl (hr.alloc _) ⟨w7.heap.size, 0, none⟩ 1 1 [.int .i64 (x : Int), .int .i64 (y : Int)] rfl rfl (cell_two_new _ _ _ _) (fun x hx => by simp at hx; rcases hx with rfl | rfl <;> rfl) (by unfold maxLen; omega) (by omega) (by simp; omega) ?_; intro v2 w8 hown2 hgrow2 _; have hg8 := Lib.hid (fun u => push_blk (O := w2.heap.size + 1) (u := u) hr g7 tne hgrow2 (by have := H5.out; have := E1.out.size; omega)); have hx8 := Lib.hid (fun u => push_blk (O := w2.heap.size + 1) (u := u) hr x7 tne hgrow2 (by have := H5.out; have := E1.out.size; omega)); obtain ⟨A5, c5, rfl, hm2, hk2⟩ := Mid.push bO hr bR HB.out H5.out hown2 rfl hgrow2; obtain ⟨t0, t1, y3, y4⟩ := hk2.two; have HM2 := Lib.hid hm2; clear hown2 hgrow2 hm2 hk2 bO hr bR g7 x7 o0 o1 f0 f2)
                    go_roundg g2
                    case measure => omega
                    case rel => exact ⟨y + 1, by omega, by omega, by go_num, by rw [← HN.out]; exact HM2.out, hg8.out _, hx8.out _⟩
                · cases e4 : (xr == yr) <;> cases both
                  · have f1 := (beq_cast2 xq yq).trans e1
                    have f4 := (beq_cast2 xr yr).trans e4
                    have HV : Hid (prodJ false l m k x y = true) := by
                      show _ = _
                      rw [HJ.out, e1, e4, ← HONE.out, ← HTWO.out]
                      rfl
                    clear HJ HONE HTWO
                    have HN := Lib.hid (HRY.out HV.out)
                    clear HRY HRN HV
                    generalize gwTo (prodJ false l m k) P x ++ rowTo (prodJ false l m k) x y = ml at *
                    have g7 := HG7.out
                    have x7 := HX7.out
                    obtain ⟨A4, c4, bO, hr, bR, hB, h5⟩ := hM7.out
                    obtain ⟨o0, o1, f0, f2⟩ := bO.two
                    have hsO := bO.lt
                    have hsz := hB.size
                    have HB := Lib.hid hB
                    have H5 := Lib.hid h5
                    clear hB h5
                    go_wp2_with (at_builtin; refine wpList_append_own _ rfl _ _ 22 rfl w.heap.size 80 i0 (.agg #[.int .i64 0, .int .i64 0]) 2 16 Try.underlying22 hi hz0 hz1 hz2 rfl (by decide) _ _ _ rfl (hr.alloc _) ⟨w7.heap.size, 0, none⟩ 1 1 [.int .i64 (x : Int), .int .i64 (y : Int)] rfl rfl (cell_two_new _ _ _ _) (fun x hx => by simp at hx; rcases hx with rfl | rfl <;> rfl) (by unfold maxLen; omega) (by omega) (by simp; omega) ?_; intro v2 w8 hown2 hgrow2 _; have hg8 := Lib.hid (fun u => push_blk (O := w2.heap.size + 1) (u := u) hr g7 tne hgrow2 (by have := H5.out; have := E1.out.size; omega)); have hx8 := Lib.hid (fun u => push_blk (O := w2.heap.size + 1) (u := u) hr x7 tne hgrow2 (by have := H5.out; have := E1.out.size; omega)); obtain ⟨A5, c5, rfl, hm2, hk2⟩ := Mid.push bO hr bR HB.out H5.out hown2 rfl hgrow2; obtain ⟨t0, t1, y3, y4⟩ := hk2.two; have HM2 := Lib.hid hm2; clear hown2 hgrow2 hm2 hk2 bO hr bR g7 x7 o0 o1 f0 f2)
                    go_roundg g2
                    case measure => omega
                    case rel => exact ⟨y + 1, by omega, by omega, by go_num, by rw [← HN.out]; exact HM2.out, hg8.out _, hx8.out _⟩
                  · have f1 := (beq_cast2 xq yq).trans e1
                    have f4 := (beq_cast2 xr yr).trans e4
                    have HV : Hid (prodJ true l m k x y = true) := by
                      show _ = _
                      rw [HJ.out, e1, e4, ← HONE.out, ← HTWO.out]
                      rfl
                    clear HJ HONE HTWO
                    have HN := Lib.hid (HRY.out HV.out)
                    clear HRY HRN HV
                    generalize gwTo (prodJ true l m k) P x ++ rowTo (prodJ true l m k) x y = ml at *
                    have g7 := HG7.out
                    have x7 := HX7.out
                    obtain ⟨A4, c4, bO, hr, bR, hB, h5⟩ := hM7.out
                    obtain ⟨o0, o1, f0, f2⟩ := bO.two
                    have hsO := bO.lt
                    have hsz := hB.size
                    have HB := Lib.hid hB
                    have H5 := Lib.hid h5
                    clear hB h5
                    go_wp2_with (at_builtin; refine wpList_append_own _ rfl _ _ 22 rfl w.heap.size 80 i0 (.agg #[.int .i64 0, .int .i64 0]) 2 16 Try.underlying22 hi hz0 hz1 hz2 rfl (by decide) _ _ _ rfl (hr.alloc _) ⟨w7.heap.size, 0, none⟩ 1 1 [.int .i64 (x : Int), .int .i64 (y : Int)] rfl rfl (cell_two_new _ _ _ _) (fun x hx => by simp at hx; rcases hx with rfl | rfl <;> rfl) (by unfold maxLen; omega) (by omega) (by simp; omega) ?_; intro v2 w8 hown2 hgrow2 _; have hg8 := Lib.hid (fun u => push_blk (O := w2.heap.size + 1) (u := u) hr g7 tne hgrow2 (by have := H5.out; have := E1.out.size; omega)); have hx8 := Lib.hid (fun u => push_blk (O := w2.heap.size + 1) (u := u) hr x7 tne hgrow2 (by have := H5.out; have := E1.out.size; omega)); obtain ⟨A5, c5, rfl, hm2, hk2⟩ := Mid.push bO hr bR HB.out H5.out hown2 rfl hgrow2; obtain ⟨t0, t1, y3, y4⟩ := hk2.two; have HM2 := Lib.hid hm2; clear hown2 hgrow2 hm2 hk2 bO hr bR g7 x7 o0 o1 f0 f2)
                    go_roundg g2
                    case measure => omega
                    case rel => exact ⟨y + 1, by omega, by omega, by go_num, by rw [← HN.out]; exact HM2.out, hg8.out _, hx8.out _⟩
                  · have f1 := (beq_cast2 xq yq).trans e1
                    have f4 := (beq_cast2 xr yr).trans e4
                    have HV : Hid (prodJ false l m k x y = true) := by
                      show _ = _
                      rw [HJ.out, e1, e4, ← HONE.out, ← HTWO.out]
                      rfl
                    clear HJ HONE HTWO
                    have HN := Lib.hid (HRY.out HV.out)
                    clear HRY HRN HV
                    generalize gwTo (prodJ false l m k) P x ++ rowTo (prodJ false l m k) x y = ml at *
                    have g7 := HG7.out
                    have x7 := HX7.out
                    obtain ⟨A4, c4, bO, hr, bR, hB, h5⟩ := hM7.out
                    obtain ⟨o0, o1, f0, f2⟩ := bO.two
                    have hsO := bO.lt
                    have hsz := hB.size
                    have HB := Lib.hid hB
                    have H5 := Lib.hid h5
                    clear hB h5
                    go_wp2_with (at_builtin; refine wpList_append_own _ rfl _ _ 22 rfl w.heap.size 80 i0 (.agg #[.int .i64 0, .int .i64 0]) 2 16 Try.underlying22 hi hz0 hz1 hz2 rfl (by decide) _ _ _ rfl (hr.alloc _) ⟨w7.heap.size, 0, none⟩ 1 1 [.int .i64 (x : Int), .int .i64 (y : Int)] rfl rfl (cell_two_new _ _ _ _) (fun x hx => by simp at hx; rcases hx with rfl | rfl <;> rfl) (by unfold maxLen; omega) (by omega) (by simp; omega) ?_; intro v2 w8 hown2 hgrow2 _; have hg8 := Lib.hid (fun u => push_blk (O := w2.heap.size + 1) (u := u) hr g7 tne hgrow2 (by have := H5.out; have := E1.out.size; omega)); have hx8 := Lib.hid (fun u => push_blk (O := w2.heap.size + 1) (u := u) hr x7 tne hgrow2 (by have := H5.out; have := E1.out.size; omega)); obtain ⟨A5, c5, rfl, hm2, hk2⟩ := Mid.push bO hr bR HB.out H5.out hown2 rfl hgrow2; obtain ⟨t0, t1, y3, y4⟩ := hk2.two; have HM2 := Lib.hid hm2; clear hown2 hgrow2 hm2 hk2 bO hr bR g7 x7 o0 o1 f0 f2)
                    go_roundg g2
                    case measure => omega
                    case rel => exact ⟨y + 1, by omega, by omega, by go_num, by rw [← HN.out]; exact HM2.out, hg8.out _, hx8.out _⟩
                  · have f1 := (beq_cast2 xq yq).trans e1
                    have f4 := (beq_cast2 xr yr).trans e4
                    have HV : Hid (prodJ true l m k x y = true) := by
                      show _ = _
                      rw [HJ.out, e1, e4, ← HONE.out, ← HTWO.out]
                      rfl
                    clear HJ HONE HTWO
                    have HN := Lib.hid (HRY.out HV.out)
                    clear HRY HRN HV
                    generalize gwTo (prodJ true l m k) P x ++ rowTo (prodJ true l m k) x y = ml at *
                    have g7 := HG7.out
                    have x7 := HX7.out
                    obtain ⟨A4, c4, bO, hr, bR, hB, h5⟩ := hM7.out
                    obtain ⟨o0, o1, f0, f2⟩ := bO.two
                    have hsO := bO.lt
                    have hsz := hB.size
                    have HB := Lib.hid hB
                    have H5 := Lib.hid h5
                    clear hB h5
                    go_wp2_with (at_builtin; refine wpList_append_own _ rfl _ _ 22 rfl w.heap.size 80 i0 (.agg #[.int .i64 0, .int .i64 0]) 2 16 Try.underlying22 hi hz0 hz1 hz2 rfl (by decide) _ _ _ rfl (hr.alloc _) ⟨w7.heap.size, 0, none⟩ 1 1 [.int .i64 (x : Int), .int .i64 (y : Int)] rfl rfl (cell_two_new _ _ _ _) (fun x hx => by simp at hx; rcases hx with rfl | rfl <;> rfl) (by unfold maxLen; omega) (by omega) (by simp; omega) ?_; intro v2 w8 hown2 hgrow2 _; have hg8 := Lib.hid (fun u => push_blk (O := w2.heap.size + 1) (u := u) hr g7 tne hgrow2 (by have := H5.out; have := E1.out.size; omega)); have hx8 := Lib.hid (fun u => push_blk (O := w2.heap.size + 1) (u := u) hr x7 tne hgrow2 (by have := H5.out; have := E1.out.size; omega)); obtain ⟨A5, c5, rfl, hm2, hk2⟩ := Mid.push bO hr bR HB.out H5.out hown2 rfl hgrow2; obtain ⟨t0, t1, y3, y4⟩ := hk2.two; have HM2 := Lib.hid hm2; clear hown2 hgrow2 hm2 hk2 bO hr bR g7 x7 o0 o1 f0 f2)
                    go_roundg g2
                    case measure => omega
                    case rel => exact ⟨y + 1, by omega, by omega, by go_num, by rw [← HN.out]; exact HM2.out, hg8.out _, hx8.out _⟩
                · cases e4 : (xr == yr) <;> cases both
                  · have f1 := (beq_cast2 xq yq).trans e1
                    have f4 := (beq_cast2 xr yr).trans e4
                    have HV : Hid (prodJ false l m k x y = true) := by
                      show _ = _
                      rw [HJ.out, e1, e4, ← HONE.out, ← HTWO.out]
                      rfl
                    clear HJ HONE HTWO
                    have HN := Lib.hid (HRY.out HV.out)
                    clear HRY HRN HV
                    generalize gwTo (prodJ false l m k) P x ++ rowTo (prodJ false l m k) x y = ml at *
                    have g7 := HG7.out
                    have x7 := HX7.out
                    obtain ⟨A4, c4, bO, hr, bR, hB, h5⟩ := hM7.out
                    obtain ⟨o0, o1, f0, f2⟩ := bO.two
                    have hsO := bO.lt
                    have hsz := hB.size
                    have HB := Lib.hid hB
                    have H5 := Lib.hid h5
                    clear hB h5
                    go_wp2_with (at_builtin; refine wpList_append_own _ rfl _ _ 22 rfl w.heap.size 80 i0 (.agg #[.int .i64 0, .int .i64 0]) 2 16 Try.underlying22 hi hz0 hz1 hz2 rfl (by decide) _ _ _ rfl (hr.alloc _) ⟨w7.heap.size, 0, none⟩ 1 1 [.int .i64 (x : Int), .int .i64 (y : Int)] rfl rfl (cell_two_new _ _ _ _) (fun x hx => by simp at hx; rcases hx with rfl | rfl <;> rfl) (by unfold maxLen; omega) (by omega) (by simp; omega) ?_; intro v2 w8 hown2 hgrow2 _; have hg8 := Lib.hid (fun u => push_blk (O := w2.heap.size + 1) (u := u) hr g7 tne hgrow2 (by have := H5.out; have := E1.out.size; omega)); have hx8 := Lib.hid (fun u => push_blk (O := w2.heap.size + 1) (u := u) hr x7 tne hgrow2 (by have := H5.out; have := E1.out.size; omega)); obtain ⟨A5, c5, rfl, hm2, hk2⟩ := Mid.push bO hr bR HB.out H5.out hown2 rfl hgrow2; obtain ⟨t0, t1, y3, y4⟩ := hk2.two; have HM2 := Lib.hid hm2; clear hown2 hgrow2 hm2 hk2 bO hr bR g7 x7 o0 o1 f0 f2)
                    go_roundg g2
                    case measure => omega
                    case rel => exact ⟨y + 1, by omega, by omega, by go_num, by rw [← HN.out]; exact HM2.out, hg8.out _, hx8.out _⟩
                  · have f1 := (beq_cast2 xq yq).trans e1
                    have f4 := (beq_cast2 xr yr).trans e4
                    have HV : Hid (prodJ true l m k x y = true) := by
                      show _ = _
                      rw [HJ.out, e1, e4, ← HONE.out, ← HTWO.out]
                      rfl
                    clear HJ HONE HTWO
                    have HN := Lib.hid (HRY.out HV.out)
                    clear HRY HRN HV
                    generalize gwTo (prodJ true l m k) P x ++ rowTo (prodJ true l m k) x y = ml at *
                    have g7 := HG7.out
                    have x7 := HX7.out
                    obtain ⟨A4, c4, bO, hr, bR, hB, h5⟩ := hM7.out
                    obtain ⟨o0, o1, f0, f2⟩ := bO.two
                    have hsO := bO.lt
                    have hsz := hB.size
                    have HB := Lib.hid hB
                    have H5 := Lib.hid h5
                    clear hB h5
                    go_wp2_with (at_builtin; refine wpList_append_own _ rfl _ _ 22 rfl w.heap.size 80 i0 (.agg #[.int .i64 0, .int .i64 0]) 2 16 Try.underlying22 hi hz0 hz1 hz2 rfl (by decide) _ _ _ rfl (hr.alloc _) ⟨w7.heap.size, 0, none⟩ 1 1 [.int .i64 (x : Int), .int .i64 (y : Int)] rfl rfl (cell_two_new _ _ _ _) (fun x hx => by simp at hx; rcases hx with rfl | rfl <;> rfl) (by unfold maxLen; omega) (by omega) (by simp; omega) ?_; intro v2 w8 hown2 hgrow2 _; have hg8 := Lib.hid (fun u => push_blk (O := w2.heap.size + 1) (u := u) hr g7 tne hgrow2 (by have := H5.out; have := E1.out.size; omega)); have hx8 := Lib.hid (fun u => push_blk (O := w2.heap.size + 1) (u := u) hr x7 tne hgrow2 (by have := H5.out; have := E1.out.size; omega)); obtain ⟨A5, c5, rfl, hm2, hk2⟩ := Mid.push bO hr bR HB.out H5.out hown2 rfl hgrow2; obtain ⟨t0, t1, y3, y4⟩ := hk2.two; have HM2 := Lib.hid hm2; clear hown2 hgrow2 hm2 hk2 bO hr bR g7 x7 o0 o1 f0 f2)
                    go_roundg g2
                    case measure => omega
                    case rel => exact ⟨y + 1, by omega, by omega, by go_num, by rw [← HN.out]; exact HM2.out, hg8.out _, hx8.out _⟩
                  · have f1 := (beq_cast2 xq yq).trans e1
                    have f4 := (beq_cast2 xr yr).trans e4
                    have HV : Hid (prodJ false l m k x y = true) := by
                      show _ = _
                      rw [HJ.out, e1, e4, ← HONE.out, ← HTWO.out]
                      rfl
                    clear HJ HONE HTWO
                    have HN := Lib.hid (HRY.out HV.out)
                    clear HRY HRN HV
                    generalize gwTo (prodJ false l m k) P x ++ rowTo (prodJ false l m k) x y = ml at *
                    have g7 := HG7.out
                    have x7 := HX7.out
                    obtain ⟨A4, c4, bO, hr, bR, hB, h5⟩ := hM7.out
                    obtain ⟨o0, o1, f0, f2⟩ := bO.two
                    have hsO := bO.lt
                    have hsz := hB.size
                    have HB := Lib.hid hB
                    have H5 := Lib.hid h5
                    clear hB h5
                    go_wp2_with (at_builtin; refine wpList_append_own _ rfl _ _ 22 rfl w.heap.size 80 i0 (.agg #[.int .i64 0, .int .i64 0]) 2 16 Try.underlying22 hi hz0 hz1 hz2 rfl (by decide) _ _ _ rfl (hr.alloc _) ⟨w7.heap.size, 0, none⟩ 1 1 [.int .i64 (x : Int), .int .i64 (y : Int)] rfl rfl (cell_two_new _ _ _ _) (fun x hx => by simp at hx; rcases hx with rfl | rfl <;> rfl) (by unfold maxLen; omega) (by omega) (by simp; omega) ?_; intro v2 w8 hown2 hgrow2 _; have hg8 := Lib.hid (fun u => push_blk (O := w2.heap.size + 1) (u := u) hr g7 tne hgrow2 (by have := H5.out; have := E1.out.size; omega)); have hx8 := Lib.hid (fun u => push_blk (O := w2.heap.size + 1) (u := u) hr x7 tne hgrow2 (by have := H5.out; have := E1.out.size; omega)); obtain ⟨A5, c5, rfl, hm2, hk2⟩ := Mid.push bO hr bR HB.out H5.out hown2 rfl hgrow2; obtain ⟨t0, t1, y3, y4⟩ := hk2.two; have HM2 := Lib.hid hm2; clear hown2 hgrow2 hm2 hk2 bO hr bR g7 x7 o0 o1 f0 f2)
                    go_roundg g2
                    case measure => omega
                    case rel => exact ⟨y + 1, by omega, by omega, by go_num, by rw [← HN.out]; exact HM2.out, hg8.out _, hx8.out _⟩
                  · have f1 := (beq_cast2 xq yq).trans e1
                    have f4 := (beq_cast2 xr yr).trans e4
                    have HV : Hid (prodJ true l m k x y = true) := by
                      show _ = _
                      rw [HJ.out, e1, e4, ← HONE.out, ← HTWO.out]
                      rfl
                    clear HJ HONE HTWO
                    have HN := Lib.hid (HRY.out HV.out)
                    clear HRY HRN HV
                    generalize gwTo (prodJ true l m k) P x ++ rowTo (prodJ true l m k) x y = ml at *
                    have g7 := HG7.out
                    have x7 := HX7.out
                    obtain ⟨A4, c4, bO, hr, bR, hB, h5⟩ := hM7.out
                    obtain ⟨o0, o1, f0, f2⟩ := bO.two
                    have hsO := bO.lt
                    have hsz := hB.size
                    have HB := Lib.hid hB
                    have H5 := Lib.hid h5
                    clear hB h5
                    go_wp2_with (at_builtin; refine wpList_append_own _ rfl _ _ 22 rfl w.heap.size 80 i0 (.agg #[.int .i64 0, .int .i64 0]) 2 16 Try.underlying22 hi hz0 hz1 hz2 rfl (by decide) _ _ _ rfl (hr.alloc _) ⟨w7.heap.size, 0, none⟩ 1 1 [.int .i64 (x : Int), .int .i64 (y : Int)] rfl rfl (cell_two_new _ _ _ _) (fun x hx => by simp at hx; rcases hx with rfl | rfl <;> rfl) (by unfold maxLen; omega) (by omega) (by simp; omega) ?_; intro v2 w8 hown2 hgrow2 _; have hg8 := Lib.hid (fun u => push_blk (O := w2.heap.size + 1) (u := u) hr g7 tne hgrow2 (by have := H5.out; have := E1.out.size; omega)); have hx8 := Lib.hid (fun u => push_blk (O := w2.heap.size + 1) (u := u) hr x7 tne hgrow2 (by have := H5.out; have := E1.out.size; omega)); obtain ⟨A5, c5, rfl, hm2, hk2⟩ := Mid.push bO hr bR HB.out H5.out hown2 rfl hgrow2; obtain ⟨t0, t1, y3, y4⟩ := hk2.two; have HM2 := Lib.hid hm2; clear hown2 hgrow2 hm2 hk2 bO hr bR g7 x7 o0 o1 f0 f2)
                    go_roundg g2
                    case measure => omega
                    case rel => exact ⟨y + 1, by omega, by omega, by go_num, by rw [← HN.out]; exact HM2.out, hg8.out _, hx8.out _⟩
      · have HN : Hid (¬ ProdOk (n : Int) (k : Int) l m) := fun hh => hp (by have := hh.2.2; rw [hE] at this; omega)
        have hP0 : (8 : Int) < ((n * k : Nat) : Int) := by omega
        have hP1 : ((n * k : Nat) : Int) ≤ 64 := by omega
        clear hg hh
        generalize n * k = P at *
        go_enter Try.func80, Try.ntmps80
        go_wp2_with fail
        refine HG.out.mono ?_
        rintro e w1 ⟨rfl, b1⟩
        have e_w1 := btrans b0 b1
        have g1 := g0.below b1 g0.lt
        have x1 := x0.below b1 x0.lt
        have r1 := r0.below b1 r0.lt
        obtain ⟨p0, p1, -, -⟩ := g1.two
        obtain ⟨m0, m1, -, -⟩ := x1.two
        clear b0 b1 g0 x0 r0
        go_wp2_with fail
        refine (l2Good_any _ (.slice A2 m.length c2) m w1 (HK.out.below e_w1) hm ht1 ht2).mono ?_
        rw [HH.out]
        rintro e w2 ⟨rfl, b2⟩
        have e_w2 := btrans e_w1 b2
        have g2 := g1.below b2 g1.lt
        have x2 := x1.below b2 x1.lt
        have r2 := r1.below b2 r1.lt
        clear p0 p1 m0 m1 g1 x1 r1 b2 e_w1
        obtain ⟨p0, p1, -, -⟩ := g2.two
        obtain ⟨m0, m1, -, -⟩ := x2.two
        obtain ⟨q0, q1, z0, z1⟩ := r2.two
        go_wp2_with fail
        clear g2 x2 r2
        refine bodyPost_ret (v := .tuple #[.agg #[.int .i64 0, .slice none 0 0], .bool false]) (by simp [results, Try.results80, go_sem, q0, q1]) rfl (RetG.no HN.out (by have hz_ := (e_w2).size; have hb_ := e_w2; go_grown))
    · have HH : Hid (goodB t m = false) := goodB_no hh
      have HN : Hid (¬ ProdOk s t l m) := fun h => hh h.2.1
      clear hg hh
      go_enter Try.func80, Try.ntmps80
      go_wp2_with fail
      refine HG.out.mono ?_
      rintro e w1 ⟨rfl, b1⟩
      have e_w1 := btrans b0 b1
      have g1 := g0.below b1 g0.lt
      have x1 := x0.below b1 x0.lt
      have r1 := r0.below b1 r0.lt
      obtain ⟨p0, p1, -, -⟩ := g1.two
      obtain ⟨m0, m1, -, -⟩ := x1.two
      clear b0 b1 g0 x0 r0
      go_wp2_with fail
      refine (l2Good_any _ (.slice A2 m.length c2) m w1 (HK.out.below e_w1) hm ht1 ht2).mono ?_
      rw [HH.out]
      rintro e w2 ⟨rfl, b2⟩
      have e_w2 := btrans e_w1 b2
      have g2 := g1.below b2 g1.lt
      have x2 := x1.below b2 x1.lt
      have r2 := r1.below b2 r1.lt
      clear p0 p1 m0 m1 g1 x1 r1 b2 e_w1
      obtain ⟨p0, p1, -, -⟩ := g2.two
      obtain ⟨m0, m1, -, -⟩ := x2.two
      obtain ⟨q0, q1, z0, z1⟩ := r2.two
      go_wp2_with fail
      clear g2 x2 r2
      refine bodyPost_ret (v := .tuple #[.agg #[.int .i64 0, .slice none 0 0], .bool false]) (by simp [results, Try.results80, go_sem, q0, q1]) rfl (RetG.no HN.out (by have hz_ := (e_w2).size; have hb_ := e_w2; go_grown))
  · rw [goodB_no hg] at HG
    have HN : Hid (¬ ProdOk s t l m) := fun h => hg h.1
    clear hg
    go_enter Try.func80, Try.ntmps80
    go_wp2_with fail
    refine HG.out.mono ?_
    rintro e w1 ⟨rfl, b1⟩
    have e_w1 := btrans b0 b1
    have r1 := r0.below b1 r0.lt
    obtain ⟨q0, q1, z0, z1⟩ := r1.two
    clear HG b0 b1 g0 x0 r0 r1
    go_wp2_with fail
    refine bodyPost_ret (v := .tuple #[.agg #[.int .i64 0, .slice none 0 0], .bool false]) (by simp [results, Try.results80, go_sem, q0, q1]) rfl (RetG.no HN.out (by have hz_ := (e_w1).size; have hb_ := e_w1; go_grown))
end Go.Proofs.Ytbdappkhkngdlaa.prods
