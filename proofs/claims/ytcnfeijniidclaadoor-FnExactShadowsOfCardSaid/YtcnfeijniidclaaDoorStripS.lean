/- The contract of the model's l3Strip. -/
import Derived.Handy
import Derived.Test.YtcnfeijniidclaaDoorStrip
import Derived.Test.YtcnfeijniidclaaDoorCorS
import Derived.Test.YtcnfeijniidclaaDoorMid
namespace Go.Proofs.YtcnfeijniidclaaDoor.strip
open Go.RowKit P2 words edges ints good adjs fns sets rets covs cors dism apps mids
set_option linter.unusedVariables false

theorem tneP : (43 : TypeId) ≠ 3 := by decide
theorem own_apart {w : World} {B B' : Nat} {t t' : TypeId} {size size' n n' : Nat} {v v' : Value} {xs xs' : List Value} (h : w.ownsRow B t size v n xs) (h' : w.ownsRow B' t' size' v' n' xs') (ht : t ≠ t') :
    v'.ownBlock = none ∨ v'.ownBlock ≠ v.ownBlock := by
  rcases h.2 with ⟨rfl, _⟩ | ⟨g, cap, cur, rfl, _, hg, _⟩
  · cases hh : v'.ownBlock with
    | none => exact .inl rfl
    | some k => exact .inr (by simp [Value.ownBlock])
  · rcases h'.2 with ⟨rfl, _⟩ | ⟨g', cap', cur', rfl, _, hg', _⟩
    · exact .inl (by simp [Value.ownBlock])
    · refine .inr (fun e => ?_)
      simp [Value.ownBlock] at e
      subst e
      rw [hg] at hg'
      simp at hg'
      exact ht hg'.2
theorem pair_reads {w : World} {g : Nat} {t : TypeId} {a b : Int} (h : Blk w g t #[.int .i64 a, .int .i64 b]) : Reads w 2 (.slice (some ⟨g, 0, none⟩) 1 1) 1 (cellsE [(a, b)]) := by
  refine ⟨_, _, rfl, fun _ => ⟨g, 0, rfl, by omega, fun j u hu => ?_⟩⟩
  rw [Nat.zero_add]
  refine (h.cell j).trans ?_
  rw [← hu]
  match j with
  | 0 => rfl
  | 1 => rfl
  | j + 2 => simp [cellsE]
theorem corners_sB {l : List Ed} {n k : Nat} (hg : P2.Good n l) (hn : n ≤ 8) : cornersS n l (nw (bitB (sB l n k)) n) = nw (cornerB l n (sB l n k)) n := by
  have := cornersS_eq hg (nw_asc (bitB (sB l n k)) n) (fun y hy => by obtain ⟨i, hi, _, rfl⟩ := mem_nw.1 hy; omega)
  rwa [sB_code hn k] at this
theorem no_more {l : List Ed} {n k : Nat} (h : (nw (cornerB l n (sB l n k)) n).length = 0) : cornersN l n (sB l n k) = 0 := by
  unfold cornersN
  rw [numOf_zero]
  intro i hi
  cases hp : cornerB l n (sB l n k) i with
  | false => rfl
  | true =>
    have := mem_nw.2 ⟨i, hi, hp, rfl⟩
    rw [List.length_eq_zero_iff.1 h] at this; cases this
/-- a list of pairs and a list of numbers are returned -/
def RowPI (w : World) (l : List Ed) (m : List Int) (e : Ending) (w' : World) : Prop :=
  ∃ A c A2 c2, e = .returned (.tuple #[.slice A l.length c, .slice A2 m.length c2]) ∧ w'.ownsRow w.heap.size 43 2 (.slice A l.length c) l.length (cellsE l) ∧
    w'.ownsRow w.heap.size 3 1 (.slice A2 m.length c2) m.length (cellsI m) ∧ Below w.heap.size w w'
set_option maxHeartbeats 4000000 in
set_option maxRecDepth 100000 in
theorem l3Strip_any (n : Nat) (v : Value) (l : List Ed) (w : World) (h : Edges w v l) (hl : l.length ≤ 1048576) (hg : P2.Good n l) (hn : n ≤ 8) :
    Calls Tryd.prog 19 #[.agg #[.int .i64 (n : Int), v]] w (RowPI w (stripL l n) (nw (bitB (coreB l n)) n)) := by
  obtain ⟨i0, hi, hz0, hz1, hz2⟩ := info_parts infoEd
  obtain ⟨A, c, rfl, -⟩ := h.form
  have H := Lib.hid h
  have HGD := Lib.hid hg
  have b0 : Below w.heap.size w ((w.alloc (.cells #[.int .i64 (n : Int), .slice A l.length c] 29)).alloc (.cells #[] 43)) := ((Below.refl _ _).alloc (Nat.le_refl _) _).alloc (by simp) _
  have g0 := (Blk.new w 29 #[.int .i64 (n : Int), .slice A l.length c]).alloc (.cells #[] 43)
  have o0 := own_new0 (w.alloc (.cells #[.int .i64 (n : Int), .slice A l.length c] 29)) 43 2
  rw [World.size_alloc] at o0
  have HO0 := Lib.hid o0
  have HAL := Lib.hid (fun (W : World) => l2All_any n (.slice A l.length c) W hn)
  have HCO := Lib.hid (fun (W : World) (u : Value) (k : Nat) (hb : Below w.heap.size w W) (hu : Ints W u (nw (bitB (sB l n k)) n)) => l3Corners_any n (.slice A l.length c) u l (nw (bitB (sB l n k)) n) W (h.below hb) hl hu (by have := nw_len (bitB (sB l n k)) n; omega) hn (fun y hy => by obtain ⟨i, hi, _, rfl⟩ := mem_nw.1 hy; omega))
  clear h hg o0
  go_enter Tryd.func19, Tryd.ntmps19
  obtain ⟨p0, p1, -, -⟩ := g0.two
  go_wp2_with fail
  refine (HAL.out _).mono ?_
  rintro e w1 ⟨A1, c1, rfl, o1, b1⟩
  have e1 := btrans b0 b1
  have g1 := g0.below b1 (by simp; omega)
  have HO1 := Lib.hid (own_below HO0.out b1)
  have o1' : w1.ownsRow w.heap.size 3 1 (.slice A1 (allN n).length c1) (nw (bitB (sB l n 0)) n).length (cellsI (nw (bitB (sB l n 0)) n)) := by
    have e : nw (bitB (sB l n 0)) n = allN n := bits_all n
    rw [e]; exact own_base o1 (by simp; omega)
  have HS1 := Lib.hid o1'
  have HAN0 : Hid ((allN n).length = (nw (bitB (sB l n 0)) n).length) := by show _ = _; rw [show nw (bitB (sB l n 0)) n = allN n from bits_all n]
  clear p0 p1 b0 b1 g0 o1 o1'
  obtain ⟨p0, p1, -, -⟩ := g1.two
  rw [HAN0.out] at HS1
  rw [HAN0.out]
  go_wp2_with fail
  refine (HCO.out w1 _ 0 e1 (Reads.of_own HS1.out)).mono ?_
  rw [corners_sB HGD.out hn]
  rintro e w2 ⟨A2, c2, rfl, o2, b2⟩
  have e2 := btrans e1 b2
  have g2 := g1.below b2 g1.lt
  have HO2 := Lib.hid (own_below HO1.out b2)
  have HS2 := Lib.hid (own_below HS1.out b2)
  have HC2 := Lib.hid (own_base o2 e1.size)
  clear p0 p1 b2 g1 o2
  go_wp2_with fail
  go_loopg [4, 5, 6] n (fun g ov sv cv wr => ∃ (k : Nat) (o s : Value) (Ac : Option Addr) (cc : Nat), o = ov ∧ s = sv ∧ cv = .slice Ac (nw (cornerB l n (sB l n k)) n).length cc ∧ k + g = n ∧ Hid (∀ j, j < k → More l n j) ∧ wr.ownsRow (w.heap.size + 1) 43 2 o (sL l n k).length (cellsE (sL l n k)) ∧
    wr.ownsRow w.heap.size 3 1 s (nw (bitB (sB l n k)) n).length (cellsI (nw (bitB (sB l n k)) n)) ∧ wr.ownsRow w.heap.size 3 1 (.slice Ac (nw (cornerB l n (sB l n k)) n).length cc) (nw (cornerB l n (sB l n k)) n).length (cellsI (nw (cornerB l n (sB l n k)) n)) ∧
    Blk wr w.heap.size 29 #[.int .i64 (n : Int), .slice A l.length c] ∧ Below w.heap.size w wr)
  case atStart => exact ⟨0, _, _, _, _, rfl, rfl, rfl, by omega, fun j hj => by omega, HO2.out, HS2.out, HC2.out, g2, e2⟩
  case round =>
    clear HO2 HS2 HC2 g2
    obtain ⟨k, ov, sv, Ac, cc, rfl, rfl, rfl, hkg, hmore, hrow, hset, hcor, hgb, hB⟩ := hrel
    have hks := szn_sum hn k hmore.out
    by_cases hm : (nw (cornerB l n (sB l n k)) n).length = 0
    · have HK := Lib.hid (kL_eq hn hmore.out (no_more hm))
      have HR := Lib.hid hrow
      have HS := Lib.hid hset
      have HBB := Lib.hid hB
      obtain ⟨A3, c3, rfl⟩ := own_form hrow
      obtain ⟨A4, c4, rfl⟩ := own_form hset
      have d0 : decide (0 < ((nw (cornerB l n (sB l n k)) n).length : Int)) = false := decide_eq_false (by omega)
      have d0' : decide (0 < (nw (cornerB l n (sB l n k)) n).length) = false := decide_eq_false (by omega)
      clear hm hrow hset hcor hB hgb
      go_wp2_with fail
      go_ret2
      unfold RowPI stripL coreB
      rw [HK.out]
      exact ⟨A3, c3, A4, c4, rfl, own_base HR.out (by omega), HS.out, HBB.out⟩
    · have hM : More l n k := fun h0 => hm (by
        rw [List.length_eq_zero_iff, List.eq_nil_iff_forall_not_mem]
        intro e he
        obtain ⟨i, hi, hp, _⟩ := mem_nw.1 he
        rw [numOf_zero.1 h0 i hi] at hp; cases hp)
      obtain ⟨x, hx1, hx2, hx3, hx4, hx5⟩ := more_x hM
      have HLY := Lib.hid (least_y HGD.out hn hM)
      have HBT := Lib.hid (sB_but hn hM)
      rw [hx1] at HLY HBT
      have HSL := Lib.hid (sL_succ l n k)
      have HX1 := Lib.hid hx1
      have HMO : Hid (∀ j, j < k + 1 → More l n j) := fun j hj => by
        by_cases e : j = k
        · subst e; exact hM
        · exact hmore.out j (by omega)
      have hless := szn_less hn hM
      have hgk : 0 < gk := by omega
      have hsl8 : (sL l n k).length ≤ 8 := by rw [sL_len]; omega
      have hnl := nw_len (bitB (sB l n k)) n
      obtain ⟨_, _, hf, hcc⟩ := Ints.form (Reads.of_own hcor)
      cases hf
      obtain ⟨gc, oc, rfl, q0⟩ := hcc 0 _ hx5
      rw [Nat.add_zero] at q0
      have hpos : 0 < (nw (cornerB l n (sB l n k)) n).length := by omega
      have hpos' : (0 : Int) < ((nw (cornerB l n (sB l n k)) n).length : Int) := by omega
      have d0 : decide (0 < ((nw (cornerB l n (sB l n k)) n).length : Int)) = true := decide_eq_true hpos'
      have HCV := Lib.hid (l3Cover_any n (x : Int) (.slice A l.length c) sv l _ wr.drew (H.out.below hB.drew) hl ((Reads.of_own hset).below (Below.refl _ _).drew) (by omega) hn (by omega))
      rw [HLY.out] at HCV
      have HR := Lib.hid (own_below hrow (Below.refl _ _).drew)
      have HS := Lib.hid (own_below hset (Below.refl _ _).drew)
      have HCR := Lib.hid (own_below hcor (Below.refl _ _).drew)
      have HWO := Lib.hid (fun (W : World) (hs : Ints W sv (nw (bitB (sB l n k)) n)) => l2Without_any sv _ (x : Int) W hs (show (nw (bitB (sB l n k)) n).length ≤ 1048576 by omega))
      rw [HBT.out] at HWO
      have HG := Lib.hid (hgb.drewN 1)
      have HBD : Hid (Below w.heap.size w wr.drew) := hB.drew
      obtain ⟨p0, p1, -, -⟩ := hgb.two
      have hszr := hgb.lt
      have hi1 : Tryd.prog.info? 43 = some i0 := hi
      clear hx1 hx3 hx4 hx5 hM hmore hks hless hcor hcc hrow hset hgb hB hm
      generalize (nw (cornerB l n (sB l n k)) n).length = nc at *
      generalize hm' : sL l n k = m at *
      generalize hyy : sY l n k = yy at *
      have HM' := Lib.hid hm'
      have HYY := Lib.hid hyy
      clear hm' hyy
      cases gk with
      | zero => omega
      | succ g2 =>
        go_wp2_with fail
        go_region_held3 (fun w' => w'.cell? ⟨w.heap.size, 0, none⟩ = some (.int .i64 (n : Int)) ∧ w'.cell? ⟨w.heap.size, 1, none⟩ = some (.slice A l.length c) ∧ w'.cell? ⟨gc, oc, none⟩ = some (.int .i64 (x : Int))) (first | exact ⟨h0, h1, h2⟩ | go_keep)
          (first
            | (go_at_call 35; refine (keep4 HCV.out (p := ⟨w.heap.size, 0, none⟩) (q := ⟨w.heap.size, 1, none⟩) (r := ⟨gc, oc, none⟩) (s := ⟨gc, oc, none⟩) (a := .int .i64 (n : Int)) (b := .slice A l.length c) (c := .int .i64 (x : Int)) (d := .int .i64 (x : Int)) ?_ ?_ ?_ ?_).mono ?_; (simp [*]); (simp [*]); (simp [*]); (simp [*]); rintro e w4 ⟨rfl, k0, k1, k2, -, b4⟩; have e4 := btrans HBD.out b4; have G4 := (HG.out.below b4 HG.out.lt).alloc (.cells #[.int .i64 (x : Int), .int .i64 yy] 43); have O4 := (own_below HR.out b4).alloc (.cells #[.int .i64 (x : Int), .int .i64 yy] 43); have S4 := (own_below HS.out b4).alloc (.cells #[.int .i64 (x : Int), .int .i64 yy] 43); have E4 := e4.alloc e4.size (.cells #[.int .i64 (x : Int), .int .i64 yy] 43); have hz4 := E4.size; have n4 := own_ne O4 G4 tne; have C4 := (own_below HCR.out b4).alloc (.cells #[.int .i64 (x : Int), .int .i64 yy] 43); have q4 := World.block_lt_of_cell? w4 (a := ⟨gc, oc, none⟩) k2; have k3 : (w4.alloc (.cells #[.int .i64 (x : Int), .int .i64 yy] 43)).cell? ⟨gc, oc, none⟩ = some (.int .i64 (x : Int)) := (World.cell?_alloc_lt w4 _ _ q4).trans k2)
            | (refine step_append_any _ rfl (.tmp 19) (.tmp 30) 22 rfl (w.heap.size + 1) 43 i0 (.agg #[.int .i64 0, .int .i64 0]) 2 16 Tryd.underlying22 hi hz0 hz1 hz2 rfl (by decide) ov m.length (cellsE m) rfl O4 (.slice (some ⟨w4.heap.size, 0, none⟩) 1 1) 1 (cellsE [((x : Int), yy)]) rfl (pair_reads (Blk.new w4 _ _)) rfl (oneE _) (by unfold maxLen; omega) (by omega) (by have := G4.lt; omega) ?_; intro v2 w5 o5 gr5; have e5 := E4.grown gr5 hz4 (fun q hq => by have := (O4.lt q hq).1; omega); have G5 := G4.grown gr5 (fun e => n4 e.symm); obtain ⟨h0, h1, -, -⟩ := G5.two; have h2 := gr5.cell (a := ⟨gc, oc, none⟩) k3 (by rcases own_apart O4 C4 tneP with hh | hh; (simp [Value.ownBlock] at hh); (simpa [Value.ownBlock] using hh)); have S5 := S4.kept gr5 (own_apart O4 S4 tneP)))
        have HO5 : Hid (w5.ownsRow (w.heap.size + 1) 43 2 v2 (sL l n (k + 1)).length (cellsE (sL l n (k + 1)))) := by
          show World.ownsRow _ _ _ _ _ _ _
          rw [HSL.out, HX1.out, cellsE_app, List.length_append]; exact o5
        have HG5 := Lib.hid G5
        have HE5 := Lib.hid e5
        have HW5 := Lib.hid (HWO.out w5 (Reads.of_own S5))
        clear o5 gr5 G5 e5 S5 S4 C4 O4 G4 E4 e4 b4 k0 k1 k2 k3 q4 n4 q0
        go_wp2_with fail
        refine HW5.out.mono ?_
        rintro e w6 ⟨A6, c6, rfl, o6, b6⟩
        have e6 := btrans HE5.out b6
        have g6 := HG5.out.below b6 HG5.out.lt
        have HO6 := Lib.hid (own_below HO5.out b6)
        have HS6 := Lib.hid (own_base o6 HE5.out.size)
        have HC6 := Lib.hid (HCO.out w6 _ (k + 1) e6 (Reads.of_own o6))
        rw [corners_sB HGD.out hn] at HC6
        clear h0 h1 h2 b6 o6 p0 p1
        obtain ⟨p0, p1, -, -⟩ := g6.two
        go_wp2_with fail
        refine HC6.out.mono ?_
        rintro e w7 ⟨A7, c7, rfl, o7, b7⟩
        have HE7 := Lib.hid (btrans e6 b7)
        have HG7 := Lib.hid (g6.below b7 g6.lt)
        have HO7 := Lib.hid (own_below HO6.out b7)
        have HS7 := Lib.hid (own_below HS6.out b7)
        have HC7 := Lib.hid (own_base o7 e6.size)
        clear p0 p1 g6 b7 o7 e6 d0
        go_wp2_with fail
        go_roundg g2
        case measure => omega
        case rel => exact ⟨k + 1, _, _, _, _, rfl, rfl, rfl, by omega, HMO, HO7.out, HS7.out, HC7.out, HG7.out, HE7.out⟩
end Go.Proofs.YtcnfeijniidclaaDoor.strip
