/- Guards: the contracts of the program's bestAnswer and BestAnswer. -/
import Derived.Handy
import Derived.Test.YtdhbaegkogklgaaDoorK23
import Derived.Test.YtdhbaegkogklgaaDoorK22
import Derived.Deep.DeepCutAuto
import Derived.Deep.RegionHeld3
import Derived.Deep.QuietTactic
import Derived.Test.YtdhbaegkogklgaaDoorK21
import Derived.Test.YtdhbaegkogklgaaDoorK20
import Derived.Test.YtdhbaegkogklgaaDoorK11
import Derived.Maps.AppendAt
namespace Go.Proofs.YtdhbaegkogklgaaDoor.ups
open Go.RowKit Go.Maps P2 words edges ints owns good adjs fns sets rets covs bags bitsI func lists least near grid
set_option linter.unusedVariables false

set_option maxHeartbeats 2000000 in
set_option maxRecDepth 100000 in
theorem banClo_any (n a b1 b k : Nat) (all : Bool) (L : List Nat) (l : List Ed) (D : DataW Unit) (w : World) (h1 : w.cell? ⟨b1, 0, none⟩ = some (.map (some b))) (hm : w.ownsMap Tryd.prog 70 (plainElem Tryd.prog 3) b k D) (hD : AtU D a (resP n l all L a)) (ha8 : a < 256) :
    Calls Tryd.prog 106 #[.int .u64 (a : Int), .pointer (some ⟨b1, 0, none⟩)] w fun e w' => e = .returned (.int .i64 (resP n l all L a)) ∧ Below w.heap.size w w' := by
  have HK := Lib.hid (ukey ha8)
  have HD := Lib.hid hD
  clear hD
  generalize resP n l all L a = r at *
  go_enter Tryd.func106, Tryd.ntmps106
  go_wp2_with (at_lookup; refine wpList_lookup_own_int _ rfl _ _ 72 rfl 70 3 .i64 lawU Tryd.underlying72 Tryd.underlying3 rfl b k D rfl hm _ _ rfl HK.out ?_; intro c hc _; obtain rfl : r = c := (by have h_ := hc.symm.trans HD.out; simp at h_; exact h_.symm))
  go_ret
  exact ⟨rfl, Below.refl _ _⟩
set_option maxHeartbeats 4000000 in
set_option maxRecDepth 100000 in
theorem bestAnswer_any (n a x b km : Nat) (all : Bool) (vc vs : Value) (L : List Nat) (l : List Ed) (D : DataW Unit) (w : World) (hE : Env w) (hc : Nums w vc (clos l n)) (hs : Nums w vs L) (hL : ∀ c ∈ L, c < 2 ^ n) (hLl : L.length ≤ 256) (hg : P2.Good (n : Int) l) (hn : n ≤ 8) (ha : a < 2 ^ n) (hx : x ≤ 8)
    (hm : w.ownsMap Tryd.prog 70 (plainElem Tryd.prog 3) b km D) (hD : ∀ c ∈ L, AtU D c (resP n l all L c)) :
    Calls Tryd.prog 54 #[watV all vc vs, .map (some b), .int .u64 (a : Int), .int .i64 (x : Int)] w fun e w' => e = .returned (.tuple #[.int .u64 ((if (ansF l all L x a).length = 0 then 0 else banV n l all L x a : Nat) : Int), .bool (decide (0 < (ansF l all L x a).length))]) ∧ Below w.heap.size w w' := by
  have hmf : ∀ (fn : Fn) (first cap : Array Value) (w : World), (Instr.makeFunc fn first cap).run Tryd.prog w = .ok (.func fn first cap) w := fun _ _ _ _ => rfl
  obtain ⟨W0, hW0⟩ : ∃ W0, W0 = (w.alloc (.cells #[vc, .func (.func (ruleF all)) #[] #[], vs] 67)).alloc (.cells #[.map (some b)] 72) := ⟨_, rfl⟩
  have b0 : Below w.heap.size w W0 := by rw [hW0]; exact ((Below.refl _ _).alloc (Nat.le_refl _) _).alloc (by simp) _
  have g1 : Blk W0 w.heap.size 67 #[vc, .func (.func (ruleF all)) #[] #[], vs] := by rw [hW0]; exact (Blk.new w 67 #[vc, .func (.func (ruleF all)) #[] #[], vs]).alloc _
  have g2 : Blk W0 (w.heap.size + 1) 72 #[.map (some b)] := by
    have h_ := Blk.new (w.alloc (.cells #[vc, .func (.func (ruleF all)) #[] #[], vs] 67)) 72 #[.map (some b)]
    rw [World.size_alloc] at h_
    rw [hW0]; exact h_
  have HM0 : Hid (W0.ownsMap Tryd.prog 70 (plainElem Tryd.prog 3) b km D) := by show World.ownsMap _ _ _ _ _ _ _; rw [hW0]; exact (hm.alloc _).alloc _
  obtain ⟨p0, p1, p2⟩ := blkW g1
  have HAN := Lib.hid (answers_any n a x all vc vs L l W0 (hE.next b0) (hc.below b0) (hs.below b0) hL (by omega) hg hn ha hx)
  have HB0 := Lib.hid b0
  have HG2 := Lib.hid g2
  have HDD := Lib.hid hD
  have HF8 : Hid (∀ c ∈ ansF l all L x a, c ∈ L ∧ c < 256) := fun c hc => ⟨(ansF_mem hc).1, Nat.lt_of_lt_of_le (hL c (ansF_mem hc).1) (pow_le hn)⟩
  have hfl : (ansF l all L x a).length ≤ 256 := Nat.le_trans (List.length_filter_le _ _) hLl
  have HBV : Hid (banV n l all L x a = pkF (upR (resP n l all L)) (ansF l all L x a)) := rfl
  have HW0 := Lib.hid hW0
  have HAF : Hid (ansF l all L x a = L.filter (ansB l all x a)) := rfl
  unfold watV at HAN ⊢
  rw [← HAF.out] at HAN
  clear hE hc hs hL hg b0 g1 g2 hW0 hm hD HAF
  generalize ansF l all L x a = F at *
  generalize banV n l all L x a = bv at *
  rw [HW0.out] at p0 p1 p2
  by_cases hF : F.length = 0
  · obtain rfl : F = [] := List.length_eq_zero_iff.1 hF
    clear hF
    go_enter Tryd.func54, Tryd.ntmps54
    go_wp2_with fail
    rw [← HW0.out]
    refine HAN.out.mono ?_
    rintro e w2 ⟨A2, c2, rfl, o2, b2⟩
    have HB2 := Lib.hid (btrans HB0.out b2)
    clear p0 p1 p2 o2 b2
    go_wp2_with fail
    go_ret2
    exact ⟨rfl, HB2.out⟩
  · have hq1 : ((F.length : Int) == 0) = false := by rw [beq_eq_false_iff_ne]; omega
    have hq2 : (F.length == 0) = false := by rw [beq_eq_false_iff_ne]; exact hF
    have hF0 : 0 < F.length := by omega
    have hd : decide (0 < F.length) = true := decide_eq_true hF0
    rw [hd, if_neg hF]
    clear hF
    go_enter Tryd.func54, Tryd.ntmps54
    go_wp2_with fail
    rw [← HW0.out]
    refine HAN.out.mono ?_
    rintro e w2 ⟨A2, c2, rfl, o2, b2⟩
    have HB2 := Lib.hid (btrans HB0.out b2)
    obtain ⟨W2, hW2⟩ : ∃ W2, W2 = w2.alloc (.cells #[.func (.func 106) #[] #[.pointer (some ⟨w.heap.size + 1, 0, none⟩)]] 127) := ⟨_, rfl⟩
    have d2 : Below w2.heap.size w2 W2 := by rw [hW2]; exact (Below.refl _ _).alloc (Nat.le_refl _) _
    have c2_ : W2.cell? ⟨w2.heap.size, 0, none⟩ = some (.func (.func 106) #[] #[.pointer (some ⟨w.heap.size + 1, 0, none⟩)]) := by rw [hW2]; exact (Blk.new w2 127 _).cell 0
    have e2 := btrans b2 d2
    have hmx := maxFuncU_any (.slice A2 F.length c2) F 130 #[.pointer (some ⟨w2.heap.size, 0, none⟩)] (resP n l all L) W2 ((show Nums w2 _ _ from Reads.of_own o2).below d2) (by omega) hF0
      { enter := fun _ _ => by kernel_rfl
        call := fun W hW y hy z hz => byNumU_any y z w2.heap.size 106 #[.pointer (some ⟨w.heap.size + 1, 0, none⟩)] F (resP n l all L) W (nearv.cell_keep c2_ hW)
          { enter := fun _ _ => by kernel_rfl
            call := fun W3 hW3 q hq => banClo_any n q (w.heap.size + 1) b km all L l D W3 ((HG2.out.below (btrans e2 (btrans hW hW3)) HG2.out.lt).cell 0) (HM0.out.kept (row := none) (gof (btrans e2 (btrans hW hW3)) none) (by simp)) (HDD.out q (HF8.out q hq).1) (HF8.out q hq).2 } hy hz }
    rw [← HBV.out] at hmx
    have HMX := Lib.hid hmx
    have HE2 := Lib.hid (btrans HB2.out d2)
    have HW2 := Lib.hid hW2
    have HBN := Lib.hid (byNumberU_any 106 #[.pointer (some ⟨w.heap.size + 1, 0, none⟩)] w2)
    clear p0 p1 p2 o2 b2 hmx hW2 c2_ e2 d2
    go_wp2_with fail
    refine HBN.out.mono ?_
    rintro e w3 ⟨rfl, rfl⟩
    rw [← HW2.out]
    go_wp2_with fail
    refine HMX.out.mono ?_
    rintro e w4 ⟨rfl, b4⟩
    go_wp2_with fail
    go_ret2
    exact ⟨rfl, btrans HE2.out b4⟩
end Go.Proofs.YtdhbaegkogklgaaDoor.ups

/- Guards: the contract of the program's BestAnswer. -/
namespace Go.Proofs.YtdhbaegkogklgaaDoor.ups
open Go.RowKit Go.Maps P2 words edges ints owns good adjs fns sets rets covs bags bitsI func lists least near grid
set_option linter.unusedVariables false

/-- an attack that can be answered -/
def BanOk (s : Int) (l : List Ed) (all : Bool) (xs : List Int) (x : Int) : Prop := AtOk s l xs x ∧ (ansF l all (setsK s.toNat xs.length) x.toNat (codeL xs)).length ≠ 0
noncomputable def banL (s : Int) (l : List Ed) (all : Bool) (xs : List Int) (x : Int) : List Int := ndN (banV s.toNat l all (setsK s.toNat xs.length) x.toNat (codeL xs))
theorem ndN_zero : ndN 0 = [] := by decide
set_option maxHeartbeats 8000000 in
set_option maxRecDepth 100000 in
theorem implBan_any (s x : Int) (all : Bool) (v u : Value) (l : List Ed) (xs : List Int) (w : World) (hE : Env w) (h : Edges w v l) (hl : l.length ≤ 1048576) (hu : Ints w u xs) (hxl : xs.length ≤ 1048576) :
    Calls Tryd.prog 17 #[.agg #[.int .i64 s, v], u, .int .i64 x, .bool all] w (RetI w (BanOk s l all xs x) (banL s l all xs x)) := by
  obtain ⟨A, c, rfl, -⟩ := h.form
  obtain ⟨A2, c2, rfl, -⟩ := hu.form
  have H := Lib.hid h
  have HU := Lib.hid hu
  have HEN := Lib.hid hE
  have b0 : Below w.heap.size w (w.alloc (.cells #[.int .i64 s, .slice A l.length c] 29)) := (Below.refl _ _).alloc (Nat.le_refl _) _
  have g0 := Blk.new w 29 #[.int .i64 s, .slice A l.length c]
  obtain ⟨p0, p1, -, -⟩ := g0.two
  have HS := Lib.hid (isAttack_any s x (.slice A l.length c) (.slice A2 xs.length c2) l xs _ (h.below b0) hl (hu.below b0) hxl)
  have HB0 := Lib.hid b0
  have HG0 := Lib.hid g0
  clear h hu b0 g0 hE
  by_cases hok : AtOk s l xs x
  · rw [okG_yes hok] at HS
    have HOK := Lib.hid hok
    have h0 := hok.1.1.1
    have h8 := hok.1.1.2.1
    have hx0 := hok.2.1.1
    have hx1 := hok.2.1.2
    obtain ⟨n, rfl⟩ : ∃ n : Nat, s = (n : Int) := ⟨s.toNat, by omega⟩
    obtain ⟨y, rfl⟩ : ∃ y : Nat, x = (y : Int) := ⟨x.toNat, by omega⟩
    have hn : n ≤ 8 := by omega
    have hy : y ≤ 8 := by omega
    have hk8 : xs.length ≤ 8 := Nat.le_trans (asc_len hok.1.2.2 hok.1.2.1) hn
    have HV1 : Hid (BanOk (n : Int) l all xs (y : Int) ↔ (ansF l all (setsK n xs.length) y (codeL xs)).length ≠ 0) := by
      show _ ↔ _
      unfold BanOk
      rw [Int.toNat_natCast, Int.toNat_natCast]
      exact ⟨fun h => h.2, fun h => ⟨hok, h⟩⟩
    have HV2 : Hid (banL (n : Int) l all xs (y : Int) = ndN (banV n l all (setsK n xs.length) y (codeL xs))) := by show _ = _; unfold banL; rw [Int.toNat_natCast, Int.toNat_natCast]
    have HWI := Lib.hid (fun (W : World) (hW : Below w.heap.size w W) => watchIn_any n xs.length all (.slice A l.length c) l W (H.out.below hW) hl hok.1.1 hn hk8)
    have HBO := Lib.hid (fun (W : World) (hW : Below w.heap.size w W) => bitsOf_any (.slice A2 xs.length c2) xs W (HU.out.below hW) hxl (fun x hx => by have := hok.1.2.1 x hx; omega))
    have hsl := setsK_len hn hk8
    have HRE := Lib.hid (fun (W : World) (vc vs : Value) (hW : Below w.heap.size w W) (hc : Nums W vc (clos l n)) (hs : Nums W vs (setsK n xs.length)) => resistances_any n all vc vs (setsK n xs.length) l W (HEN.out.next hW) hc hs (fun c hc => ((setsK_mem hn hk8).1 hc).1) hsl hok.1.1 hn)
    have HBA := Lib.hid (fun (W : World) (vc vs : Value) (b km : Nat) (D : DataW Unit) (hW : Below w.heap.size w W) (hc : Nums W vc (clos l n)) (hs : Nums W vs (setsK n xs.length)) (hm : W.ownsMap Tryd.prog 70 (plainElem Tryd.prog 3) b km D) (hD : ∀ c ∈ setsK n xs.length, AtU D c (resP n l all (setsK n xs.length) c)) =>
      bestAnswer_any n (codeL xs) y b km all vc vs (setsK n xs.length) l D W (HEN.out.next hW) hc hs (fun c hc => ((setsK_mem hn hk8).1 hc).1) hsl hok.1.1 hn (code_set hok.1) hy hm hD)
    have HB8 : Hid ((if (ansF l all (setsK n xs.length) y (codeL xs)).length = 0 then 0 else banV n l all (setsK n xs.length) y (codeL xs)) < 256) := by
      show _ < _
      split
      · omega
      · rename_i hne
        have hm := banV_mem (n := n) (l := l) (all := all) (L := setsK n xs.length) (x := y) (a := codeL xs) (fun e => hne (by rw [e]; rfl))
        exact Nat.lt_of_lt_of_le ((setsK_mem hn hk8).1 (ansF_mem hm).1).1 (pow_le hn)
    have HNL := Lib.hid (fun c => nw_len (bitB c) 8)
    clear hok
    generalize setsK n xs.length = L at *
    generalize codeL xs = a at *
    obtain ⟨ans, hans⟩ : ∃ ans : Nat, ans = (if (ansF l all L y a).length = 0 then 0 else banV n l all L y a) := ⟨_, rfl⟩
    obtain ⟨okb, hokb⟩ : ∃ okb : Bool, okb = decide (0 < (ansF l all L y a).length) := ⟨_, rfl⟩
    rw [← hans] at HB8 HBA
    rw [← hokb] at HBA
    have HANS := Lib.hid hans
    have HOKB := Lib.hid hokb
    clear hans hokb
    have hans8 := HB8.out
    go_enter Tryd.func17, Tryd.ntmps17
    go_wp2_with fail
    refine HS.out.mono ?_
    rintro e w1 ⟨rfl, b1⟩
    have HE1 := Lib.hid (btrans HB0.out b1)
    have HG1 := Lib.hid (HG0.out.below b1 HG0.out.lt)
    clear p0 p1 b1
    obtain ⟨p0, p1, -, -⟩ := HG1.out.two
    go_wp2_with fail
    refine (HWI.out w1 HE1.out).mono ?_
    rintro e w2 ⟨A3, c3, A4, c4, rfl, i3, o4, b2⟩
    obtain ⟨W2, hW2⟩ : ∃ W2, W2 = w2.alloc (.cells #[.slice A3 (clos l n).length c3, .func (.func (ruleF all)) #[] #[], .slice A4 L.length c4] 67) := ⟨_, rfl⟩
    have e2 := btrans HE1.out b2
    have d2 : Below w2.heap.size w2 W2 := by rw [hW2]; exact (Below.refl _ _).alloc (Nat.le_refl _) _
    have HE2 := Lib.hid (btrans e2 d2)
    have HK2 : Hid (Blk W2 w2.heap.size 67 #[.slice A3 (clos l n).length c3, .func (.func (ruleF all)) #[] #[], .slice A4 L.length c4]) := by show Blk _ _ _ _; rw [hW2]; exact Blk.new _ _ _
    have HL2 : Hid (Nums W2 (.slice A4 L.length c4) L) := (show Nums w2 _ _ from Reads.of_own o4).below d2
    have HC2 : Hid (Nums W2 (.slice A3 (clos l n).length c3) (clos l n)) := i3.below d2
    have D0 : Below W2.heap.size W2 W2.drew := (Below.refl _ _).drew
    have HRE2 := Lib.hid (HRE.out W2.drew _ _ (btrans HE2.out D0) (HC2.out.below D0) (HL2.out.below D0))
    have HW2 := Lib.hid hW2
    obtain ⟨q0, q1, q2⟩ := blkW HK2.out
    unfold watV at HRE2 HBA ⊢
    clear p0 p1 b2 i3 o4 e2 d2 D0
    rw [hW2] at q0 q1 q2
    clear hW2
    go_wp2_with fail
    rw [← HW2.out] at q0 q1 q2 ⊢
    refine wp_region_held_drew (S := (fun w' : World => w'.cell? ⟨w2.heap.size, 0, none⟩ = some (.slice A3 (clos l n).length c3) ∧ w'.cell? ⟨w2.heap.size, 1, none⟩ = some (.func (.func (ruleF all)) #[] #[]) ∧ w'.cell? ⟨w2.heap.size, 2, none⟩ = some (.slice A4 L.length c4))) (by kernel_rfl) (by (try dsimp only); simp [*]) (fun hHeld => ?_)
    change wpAnyH _ _ _ _ _ _ #[false, false, false, false, false, false, false, false, false, false, false, false] _ _
    refine wpAnyH_take (i := 0) (oi := ⟨some 24, _, _, _, _, _⟩) (v := ?_) rfl (by kernel_rfl) (by kernel_rfl) (by kernel_rfl) (fun _ _ _ h => h) (Or.inl ⟨by rfl, ?_⟩) (by assumption) ?_
    rotate_left
    · (intro w hSw; (try dsimp only at hSw); go_simp; (try (with_reducible rfl)))
    try simp only [Act.put, List.setIfInBounds_toArray, List.set_cons_zero, List.set_cons_succ]
    refine wpAnyH_take (i := 1) (oi := ⟨some 25, _, _, _, _, _⟩) (v := ?_) rfl (by kernel_rfl) (by kernel_rfl) (by kernel_rfl) (fun _ _ _ h => h) (Or.inl ⟨by rfl, ?_⟩) (by assumption) ?_
    rotate_left
    · (intro w hSw; (try dsimp only at hSw); go_simp; (try (with_reducible rfl)))
    try simp only [Act.put, List.setIfInBounds_toArray, List.set_cons_zero, List.set_cons_succ]
    refine wpAnyH_take (i := 3) (oi := ⟨some 27, _, _, _, _, _⟩) (v := ?_) rfl (by kernel_rfl) (by kernel_rfl) (by kernel_rfl) (fun _ _ _ h => h) (Or.inl ⟨by rfl, ?_⟩) (by assumption) ?_
    rotate_left
    · (intro w hSw; (try dsimp only at hSw); go_simp; (try (with_reducible rfl)))
    try simp only [Act.put, List.setIfInBounds_toArray, List.set_cons_zero, List.set_cons_succ]
    refine wpAnyH_take (i := 5) (oi := ⟨some 29, _, _, _, _, _⟩) (v := ?_) rfl (by kernel_rfl) (by kernel_rfl) (by kernel_rfl) (fun _ _ _ h => h) (Or.inl ⟨by rfl, ?_⟩) (by assumption) ?_
    rotate_left
    · (intro w hSw; (try dsimp only at hSw); go_simp; (try (with_reducible rfl)))
    try simp only [Act.put, List.setIfInBounds_toArray, List.set_cons_zero, List.set_cons_succ]
    refine wpAnyH_ready (rs := [2]) (by kernel_rfl) (by simp) ?_
    refine AllReadyH.cons (o := ⟨some 26, _, _, _, _, _⟩) rfl (fun K hK => ?_) AllReadyH.nil
    go_simp
    (with_reducible refine HRE2.out.mono ?_); rintro e w3 ⟨b, km, D, rfl, hbw, hmp, hat, b3⟩; have d3 : Below W2.heap.size W2 w3 := btrans (Below.refl _ _).drew b3; have HE3 := Lib.hid (btrans HE2.out d3); obtain ⟨k0, k1, k2⟩ := blkW (HK2.out.below d3 HK2.out.lt)
    go_wp2_with fail
    refine hK.out _ _ (by (try dsimp only); simp [*]) (fun hHeld => ?_)
    clear hK K
    try simp only [List.setIfInBounds_toArray, List.set_cons_zero, List.set_cons_succ]
    refine wpAnyH_ready (rs := [4]) (by kernel_rfl) (by simp) ?_
    refine AllReadyH.cons (o := ⟨some 28, _, _, _, _, _⟩) rfl (fun K hK => ?_) AllReadyH.nil
    go_simp
    (with_reducible refine (HBO.out w3 HE3.out).mono ?_); rintro e w4 ⟨rfl, rfl⟩
    go_wp2_with fail
    refine hK.out _ _ (by (try dsimp only); simp [*]) (fun hHeld => ?_)
    clear hK K
    try simp only [List.setIfInBounds_toArray, List.set_cons_zero, List.set_cons_succ]
    refine wpAnyH_ready (rs := [6]) (by kernel_rfl) (by simp) ?_
    refine AllReadyH.cons (o := ⟨some 30, _, _, _, _, _⟩) rfl (fun K hK => ?_) AllReadyH.nil
    go_simp
    (with_reducible refine (HBA.out w3 _ _ b km D HE3.out (HC2.out.below d3) (HL2.out.below d3) hmp hat).mono ?_); rintro e w5 ⟨rfl, b5⟩; have d5 : Below W2.heap.size W2 w5 := btrans d3 b5; obtain ⟨j0, j1, j2⟩ := blkW (HK2.out.below d5 HK2.out.lt)
    go_wp2_with fail
    refine hK.out _ _ (by (try dsimp only); simp [*]) (fun hHeld => ?_)
    clear hK K
    try simp only [List.setIfInBounds_toArray, List.set_cons_zero, List.set_cons_succ]
    refine wpAnyH_take (i := 7) (oi := ⟨some 23, _, _, _, _, _⟩) (v := ?_) rfl (by kernel_rfl) (by kernel_rfl) (by kernel_rfl) (fun _ _ _ h => h) (Or.inl ⟨by rfl, ?_⟩) (by assumption) ?_
    rotate_left
    · (intro w hSw; (try dsimp only at hSw); go_simp; (try (with_reducible rfl)))
    try simp only [Act.put, List.setIfInBounds_toArray, List.set_cons_zero, List.set_cons_succ]
    refine wpAnyH_take (i := 8) (oi := ⟨some 31, _, _, _, _, _⟩) (v := ?_) rfl (by kernel_rfl) (by kernel_rfl) (by kernel_rfl) (fun _ _ _ h => h) (Or.inl ⟨by rfl, ?_⟩) (by assumption) ?_
    rotate_left
    · (intro w hSw; (try dsimp only at hSw); go_simp; (try (with_reducible rfl)))
    try simp only [Act.put, List.setIfInBounds_toArray, List.set_cons_zero, List.set_cons_succ]
    refine wpAnyH_take (i := 9) (oi := ⟨some 32, _, _, _, _, _⟩) (v := ?_) rfl (by kernel_rfl) (by kernel_rfl) (by kernel_rfl) (fun _ _ _ h => h) (Or.inl ⟨by rfl, ?_⟩) (by assumption) ?_
    rotate_left
    · (intro w hSw; (try dsimp only at hSw); go_simp; (try (with_reducible rfl)))
    try simp only [Act.put, List.setIfInBounds_toArray, List.set_cons_zero, List.set_cons_succ]
    refine wpAnyH_take (i := 10) (oi := ⟨some 11, _, _, _, _, _⟩) (v := ?_) rfl (by kernel_rfl) (by kernel_rfl) (by kernel_rfl) (fun _ _ _ h => h) (Or.inl ⟨by rfl, ?_⟩) (by assumption) ?_
    rotate_left
    · (intro w hSw; (try dsimp only at hSw); go_simp; (try (with_reducible rfl)))
    try simp only [Act.put, List.setIfInBounds_toArray, List.set_cons_zero, List.set_cons_succ]
    refine wpAnyH_take (i := 11) (oi := ⟨some 12, _, _, _, _, _⟩) (v := ?_) rfl (by kernel_rfl) (by kernel_rfl) (by kernel_rfl) (fun _ _ _ h => h) (Or.inl ⟨by rfl, ?_⟩) (by assumption) ?_
    rotate_left
    · (intro w hSw; (try dsimp only at hSw); go_simp; (try (with_reducible rfl)))
    try simp only [Act.put, List.setIfInBounds_toArray, List.set_cons_zero, List.set_cons_succ]
    refine wpAnyH_done (by kernel_rfl) ?_ _
    have HE5 := Lib.hid (btrans HE2.out d5)
    have HND := Lib.hid (fun (W : World) => nodes_any ans W (by omega))
    rw [show nw (bitB ans) 8 = ndN ans from rfl] at HND
    clear hbw hmp hat b3 d3 HE3 k0 k1 k2 b5 d5 j0 j1 j2 hHeld q0 q1 q2
    go_wp2_with fail
    refine (HND.out w5).mono ?_
    rintro e w6 ⟨A6, c6, rfl, o6, b6⟩
    have o7 := own_base (B' := w.heap.size) o6 HE5.out.size
    have e6 := btrans HE5.out b6
    clear o6 b6
    go_wp2_with fail
    go_ret2
    by_cases hF : (ansF l all L y a).length = 0
    · have ha0 : ans = 0 := by rw [HANS.out, if_pos hF]
      have hb0 : okb = false := by rw [HOKB.out]; exact decide_eq_false (by omega)
      subst ha0 hb0
      rw [ndN_zero] at o7 ⊢
      exact RetI.no (fun h => (HV1.out.1 h) hF) o7 e6
    · have ha0 : ans = banV n l all L y a := by rw [HANS.out, if_neg hF]
      have hb0 : okb = true := by rw [HOKB.out]; exact decide_eq_true (by omega)
      subst hb0
      rw [HV2.out, ← ha0]
      exact RetI.yes (HV1.out.2 hF) o7 e6
  · rw [okG_no hok] at HS
    have HNO : Hid (¬ BanOk s l all xs x) := fun h => hok h.1
    clear hok
    go_enter Tryd.func17, Tryd.ntmps17
    go_wp2_with fail
    refine HS.out.mono ?_
    rintro e w1 ⟨rfl, b1⟩
    have HE1 := Lib.hid (btrans HB0.out b1)
    clear p0 p1 b1
    go_wp2_with fail
    go_ret2
    exact RetI.nil HNO.out HE1.out
end Go.Proofs.YtdhbaegkogklgaaDoor.ups

/- Guards: the contracts of the model's l10After, l10Falls and l10Resist. -/
namespace Go.Proofs.YtdhbaegkogklgaaDoor.ups
open Go.RowKit P2 words edges ints owns good adjs fns sets rets covs bags balls bitsI func lists times apps gridr grid trip minmax
set_option linter.unusedVariables false

theorem foldl_take {T P : List Int} {k : Nat} {p : Int} (h : P[k]? = some p) : (P.take (k + 1)).foldl (fun m p => max m (T.getD p.toNat 0)) 0 = max ((P.take k).foldl (fun m p => max m (T.getD p.toNat 0)) 0) (T.getD p.toNat 0) := by
  rw [List.take_add_one, h, List.foldl_append]; rfl
set_option maxHeartbeats 8000000 in
set_option maxRecDepth 100000 in
theorem l10After_any (u t : Value) (P T : List Int) (w : World) (hu : Ints w u P) (ht : Ints w t T) (hP : ∀ p ∈ P, ∃ i : Nat, p = (i : Int) ∧ i < T.length) (hPl : P.length ≤ 1048576) (hTl : T.length ≤ 1048576) :
    Calls Tryd.prog 42 #[u, t] w fun e w' => e = .returned (.tuple #[.int .i64 (if aftB T P = true then -1 else aftN T P), .bool (decide (0 < P.length))]) ∧ Below w.heap.size w w' := by
  obtain ⟨A1, c1, rfl, -⟩ := hu.form
  obtain ⟨A2, c2, rfl, -⟩ := ht.form
  have HU := Lib.hid hu
  have HT := Lib.hid ht
  have HP := Lib.hid hP
  have HK0 : Hid (aftB T (P.take 0) = false) := rfl
  have HB0 : Hid (Below w.heap.size w w) := Below.refl _ _
  have HN : Hid (aftN T P = (P.take P.length).foldl (fun m p => max m (T.getD p.toNat 0)) 0) := by show _ = _; rw [List.take_length]; rfl
  have HB9 : Hid (∀ k, k = P.length → aftB T (P.take k) = false → aftB T P = false) := fun k e h => by rw [e, List.take_length] at h; exact h
  have HF : Hid (∀ k p, P[k]? = some p → (P.take (k + 1)).foldl (fun m p => max m (T.getD p.toNat 0)) 0 = max ((P.take k).foldl (fun m p => max m (T.getD p.toNat 0)) 0) (T.getD p.toNat 0)) := fun k p h => foldl_take h
  have HF0 : Hid ((P.take 0).foldl (fun m p => max m (T.getD p.toNat 0)) 0 = 0) := rfl
  have HTB : Hid (∀ k p, P[k]? = some p → aftB T (P.take k) = false → decide (T.getD p.toNat 0 < 0) = false → aftB T (P.take (k + 1)) = false) := fun k p h1 h2 h3 => by
    unfold aftB at h2 ⊢
    rw [List.take_add_one, h1, List.any_append, h2]
    simpa using h3
  have HYE : Hid (∀ (k : Nat) (p : Int), P[k]? = some p → T.getD p.toNat 0 < 0 → aftB T P = true ∧ 0 < P.length) := fun k p h1 h2 => ⟨List.any_eq_true.2 ⟨p, List.mem_of_getElem? h1, decide_eq_true h2⟩, by have := (List.getElem?_eq_some_iff.1 h1).1; omega⟩
  obtain ⟨rv, hrv⟩ : ∃ rv : Int, rv = if aftB T P = true then -1 else aftN T P := ⟨_, rfl⟩
  obtain ⟨ok, hok⟩ : ∃ ok : Bool, ok = decide (0 < P.length) := ⟨_, rfl⟩
  rw [← hrv, ← hok]
  have HRV := Lib.hid hrv
  have HOK := Lib.hid hok
  clear hu ht hP hrv hok
  generalize hAF : (fun k => (P.take k).foldl (fun m p => max m (T.getD p.toNat 0)) 0) = AF at *
  have hAFk : ∀ k, (P.take k).foldl (fun m p => max m (T.getD p.toNat 0)) 0 = AF k := fun k => congrFun hAF k
  simp only [hAFk] at HN HF HF0
  clear hAF hAFk
  go_enter Tryd.func42, Tryd.ntmps42
  go_wp2_with fail
  go_loopg [6, 7] P.length (fun g bv iv wr => ∃ k : Nat, k + g = P.length ∧ iv = .int .i64 (k : Int) ∧ bv = .int .i64 (AF k) ∧ Hid (aftB T (P.take k) = false) ∧ Below w.heap.size w wr)
  case atStart => exact ⟨0, by omega, rfl, by rw [HF0.out], HK0, HB0.out⟩
  case round =>
    clear HK0 HB0
    obtain ⟨k, hkg, rfl, rfl, hal, hB⟩ := hrel
    have HB := Lib.hid hB
    cases gk with
    | zero =>
      obtain rfl : k = P.length := by omega
      have HV : Hid (aftB T P = false) := HB9.out _ rfl hal.out
      clear hB
      have HR : Hid (rv = AF P.length) := by show _ = _; rw [HRV.out, HV.out, if_neg (by decide), HN.out]
      go_wp2_with fail
      go_ret2
      rw [HR.out, HOK.out]
      exact ⟨rfl, HB.out⟩
    | succ g2 =>
      have hlt : k < P.length := by omega
      have hlt' : (k : Int) < (P.length : Int) := by omega
      obtain ⟨p, hp⟩ : ∃ p, P[k]? = some p := ⟨_, List.getElem?_eq_getElem hlt⟩
      obtain ⟨i, rfl, hi⟩ := HP.out p (List.mem_of_getElem? hp)
      obtain ⟨v, hv⟩ : ∃ v, T[i]? = some v := ⟨_, List.getElem?_eq_getElem hi⟩
      have hgd : T.getD ((i : Int)).toNat 0 = v := by rw [show ((i : Int)).toNat = i from rfl, List.getD_eq_getElem?_getD, hv]; rfl
      have hi' : (i : Int) < (T.length : Int) := by omega
      obtain ⟨_, _, e1, hcc⟩ := (show Ints wr (.slice A1 P.length c1) P from HU.out.below hB).form
      cases e1
      obtain ⟨g1, o1, rfl, q1⟩ := hcc k _ hp
      obtain ⟨_, _, e2, hcc2⟩ := (show Ints wr (.slice A2 T.length c2) T from HT.out.below hB).form
      cases e2
      obtain ⟨g2_, o2, rfl, q2⟩ := hcc2 i _ hv
      by_cases hneg : v < 0
      · have HY := Lib.hid (HYE.out k _ hp (by rw [hgd]; exact hneg))
        have HR : Hid (rv = -1) := by show _ = _; rw [HRV.out, HY.out.1, if_pos rfl]
        have HK : Hid (ok = true) := by show _ = _; rw [HOK.out]; exact decide_eq_true HY.out.2
        clear hB hgd hp hv hcc hcc2
        go_wp2_with fail
        go_ret2
        rw [HR.out, HK.out]
        exact ⟨rfl, HB.out⟩
      · have HF1 := Lib.hid (HF.out k _ hp)
        rw [hgd] at HF1
        have HT1 := Lib.hid (HTB.out k _ hp hal.out (by rw [hgd]; exact decide_eq_false hneg))
        have HM := Lib.hid (fun (W : World) => l1Most_any (AF k) v W)
        clear hB hgd hp hv hcc hcc2
        go_wp2_with fail
        refine (HM.out _).mono ?_
        rintro e w' ⟨rfl, rfl⟩
        go_wp2_with fail
        go_roundg g2
        case measure => omega
        case rel => exact ⟨k + 1, by omega, by go_num, by rw [HF1.out], HT1, HB.out⟩
theorem fal_no {T : List Int} {R : List (List Int)} {a : Nat} (h : ∀ x, x < R.length → (!a.testBit x && !(aftB T (R.getD x []))) = false) : falB T R a = false := by
  unfold falB
  rw [List.any_eq_false]
  intro x hx
  rw [h x (List.mem_range.1 hx)]; decide
theorem fal_yes {T : List Int} {R : List (List Int)} {a x : Nat} (hx : x < R.length) (h : (!a.testBit x && !(aftB T (R.getD x []))) = true) : falB T R a = true := by
  unfold falB
  exact List.any_eq_true.2 ⟨x, List.mem_range.2 hx, h⟩
set_option maxHeartbeats 8000000 in
set_option maxRecDepth 100000 in
theorem l10Falls_any (u v t : Value) (us : List Value) (a : Nat) (R : List (List Int)) (T : List Int) (w : World) (hu : Ints w u (ndN a)) (hR : ReadsG w v us R) (ht : Ints w t T) (ha : a < 256) (hP : ∀ r ∈ R, (∀ p ∈ r, ∃ i : Nat, p = (i : Int) ∧ i < T.length) ∧ r.length ≤ 1048576) (hRl : R.length ≤ 1048576) (hTl : T.length ≤ 1048576) :
    Calls Tryd.prog 91 #[u, v, t] w fun e w' => e = .returned (.bool (falB T R a)) ∧ Below w.heap.size w w' := by
  obtain ⟨A1, c1, rfl, -⟩ := hu.form
  obtain ⟨A2, c2, rfl, -⟩ := hR.1
  have HHS := Lib.hid (fun (x : Nat) (W : World) (hW : Below w.heap.size w W) => (by have h_ := l1Has_any (.slice A1 (ndN a).length c1) (ndN a) (x : Int) W (hu.below hW) (by have := nw_len (bitB a) 8; unfold ndN; omega); rw [has_nd ha] at h_; exact h_ : Calls Tryd.prog 41 #[.slice A1 (ndN a).length c1, .int .i64 (x : Int)] W fun e w' => e = .returned (.bool (a.testBit x)) ∧ W = w'))
  have HAF := Lib.hid (fun (r : List Int) (hr : r ∈ R) (z : Value) (W : World) (hz : Ints W z r) (hW : Below w.heap.size w W) => l10After_any z t r T W hz (ht.below hW) (hP r hr).1 (hP r hr).2 hTl)
  have HR := Lib.hid hR
  have HB0 : Hid (Below w.heap.size w w) := Below.refl _ _
  have HNO : Hid ((∀ x, x < R.length → (!a.testBit x && !(aftB T (R.getD x []))) = false) → falB T R a = false) := fun h => fal_no h
  have HYE : Hid (∀ x, x < R.length → (!a.testBit x && !(aftB T (R.getD x []))) = true → falB T R a = true) := fun x hx h => fal_yes hx h
  obtain ⟨rv, hrv⟩ : ∃ rv : Bool, rv = falB T R a := ⟨_, rfl⟩
  rw [← hrv] at HNO HYE ⊢
  clear hu hR ht hP hrv
  go_enter Tryd.func91, Tryd.ntmps91
  go_wp2_with fail
  go_loopg [7] R.length (fun g iv wr => ∃ k : Nat, k + g = R.length ∧ iv = .int .i64 (k : Int) ∧ Hid (∀ x, x < k → (!a.testBit x && !(aftB T (R.getD x []))) = false) ∧ Below w.heap.size w wr)
  case atStart => exact ⟨0, by omega, rfl, fun x hx => absurd hx (Nat.not_lt_zero _), HB0.out⟩
  case round =>
    clear HB0
    obtain ⟨k, hkg, rfl, hal, hB⟩ := hrel
    have HB := Lib.hid hB
    cases gk with
    | zero =>
      obtain rfl : k = R.length := by omega
      have HV : Hid (rv = false) := HNO.out hal.out
      clear hB
      go_wp2_with fail
      go_ret
      rw [HV.out]
      exact ⟨rfl, HB.out⟩
    | succ g2 =>
      have hlt : k < R.length := by omega
      have hlt' : (k : Int) < (R.length : Int) := by omega
      obtain ⟨r, hr⟩ : ∃ r, R[k]? = some r := ⟨_, List.getElem?_eq_getElem hlt⟩
      have hgd : R.getD k [] = r := by rw [List.getD_eq_getElem?_getD, hr]; rfl
      obtain ⟨z, g5, o5, hz5, hA5, ca5, hza⟩ := (show ReadsG wr (.slice A2 R.length c2) us R from HR.out.below hB).row hr
      subst hA5
      obtain ⟨Az, cz, rfl, -⟩ := hza.form
      have HH := Lib.hid (HHS.out k wr hB)
      have HA := Lib.hid (HAF.out r (List.mem_of_getElem? hr) _ wr hza hB)
      have HAL : Hid ((!a.testBit k && !(aftB T r)) = false → ∀ x, x < k + 1 → (!a.testBit x && !(aftB T (R.getD x []))) = false) := fun h x hx => by
        by_cases e : x = k
        · subst e; rw [hgd]; exact h
        · exact hal.out x (by omega)
      have HY1 : Hid ((!a.testBit k && !(aftB T r)) = true → rv = true) := fun h => HYE.out k hlt (by rw [hgd]; exact h)
      have HNN := Lib.hid (show 0 ≤ aftN T r from aftN_nonneg T r 0 (Int.le_refl _))
      have HBS : Hid (aftB T r = true → 0 < r.length) := fun h => aftB_some h
      clear hr hgd hz5 hza hB
      cases hb : a.testBit k with
      | true =>
        rw [hb] at HH HAL
        have HAL1 := Lib.hid (HAL.out rfl)
        clear hb
        go_wp2_with fail
        refine HH.out.mono ?_
        rintro e w' ⟨rfl, rfl⟩
        go_wp2_with fail
        go_roundg g2
        case measure => omega
        case rel => exact ⟨k + 1, by omega, by go_num, HAL1, HB.out⟩
      | false =>
        rw [hb] at HH HAL HY1
        clear hb
        cases hq : aftB T r with
        | true =>
          rw [hq] at HAL HA
          have HAL1 := Lib.hid (HAL.out rfl)
          have HRL := HBS.out hq
          rw [decide_eq_true HRL] at HA
          clear hq HRL
          go_wp2_with fail
          refine HH.out.mono ?_
          rintro e w' ⟨rfl, rfl⟩
          go_wp2_with fail
          refine HA.out.mono ?_
          rintro e w5 ⟨rfl, b5⟩
          have HB5 := Lib.hid (btrans HB.out b5)
          clear b5
          go_wp2_with fail
          go_roundg g2
          case measure => omega
          case rel => exact ⟨k + 1, by omega, by go_num, HAL1, HB5.out⟩
        | false =>
          rw [hq] at HY1 HA
          have HV := Lib.hid (HY1.out rfl)
          have hnn := HNN.out
          clear hq
          generalize aftN T r = m at *
          generalize decide (0 < r.length) = ok at *
          go_wp2_with fail
          refine HH.out.mono ?_
          rintro e w' ⟨rfl, rfl⟩
          go_wp2_with fail
          refine HA.out.mono ?_
          rintro e w5 ⟨rfl, b5⟩
          have HB5 := Lib.hid (btrans HB.out b5)
          clear b5
          cases ok with
          | true =>
            go_wp2_with fail
            go_ret
            rw [HV.out]
            exact ⟨rfl, HB5.out⟩
          | false =>
            go_wp2_with fail
            go_ret
            rw [HV.out]
            exact ⟨rfl, HB5.out⟩
theorem cellsI_setR (l : List Int) (k : Nat) (x : Int) : (cellsI l).set k (.int .i64 x) = cellsI (l.set k x) := by simp [cellsI, List.map_set]
theorem rep_succ (k : Nat) : List.replicate (k + 1) (-1 : Int) = List.replicate k (-1) ++ [-1] := List.replicate_succ'
set_option maxHeartbeats 8000000 in
set_option maxRecDepth 100000 in
theorem l10Resist_any (n k : Nat) (all : Bool) (v t : Value) (us vs : List Value) (L : List Nat) (l : List Ed) (w : World) (ht : ReadsG w t us (rowN L)) (hv : ReadsGG w v vs (tblL n l all L)) (hL : ∀ c ∈ L, c < 2 ^ n ∧ onesN c = k) (hLl : L.length ≤ 256) (hn : n ≤ 8) :
    Calls Tryd.prog 39 #[t, v] w (RowI w (L.map (resV n l all L))) := by
  obtain ⟨At, ct, rfl, -⟩ := ht.1
  obtain ⟨Av, cv, rfl, -⟩ := hv.1
  obtain ⟨i0, hi, hz0, hz1, hz2⟩ := info_parts infoInt
  have HT := Lib.hid ht
  have HVV := Lib.hid hv
  have HRL := Lib.hid (rowN_len L)
  have HTL : Hid ((tblL n l all L).length = L.length) := tblT_len n l all L (Nat.le_refl _)
  have HTA : Hid (∀ i a, L[i]? = some a → (tblL n l all L)[i]? = some (tbR l all L a n)) := fun i a h => by
    unfold tblL tblT
    rw [List.take_length, List.getElem?_map, h]; rfl
  have HB8 : Hid (∀ b ∈ L, b < 256) := fun b hb => Nat.lt_of_lt_of_le (hL b hb).1 (pow_le hn)
  have HPR : Hid (∀ (a : Nat) (T : List Int), T.length = L.length → ∀ r ∈ tbR l all L a n, (∀ p ∈ r, ∃ i : Nat, p = (i : Int) ∧ i < T.length) ∧ r.length ≤ 1048576) := fun a T hT r hr => by
    unfold tbR at hr
    obtain ⟨x, _, rfl⟩ := List.mem_map.1 hr
    split
    · exact ⟨fun p hp => by simp at hp, by simp⟩
    · refine ⟨fun p hp => ?_, Nat.le_trans (nw_len _ _) (by omega)⟩
      obtain ⟨i, hi, _, rfl⟩ := mem_nw.1 hp
      exact ⟨i, rfl, by omega⟩
  have HFL := Lib.hid (fun (a : Nat) (ha : a < 256) (T : List Int) (hT : T.length = L.length) (z y x : Value) (uu : List Value) (W : World) (hz : Ints W z (ndN a)) (hy : ReadsG W y uu (tbR l all L a n)) (hx : Ints W x T) => l10Falls_any z y x uu a (tbR l all L a n) T W hz hy hx ha (HPR.out a T hT) (by rw [tbR_len]; omega) (by omega))
  have HZ := Lib.hid (rtT_zero n l all L)
  have b0 : Below w.heap.size w (w.alloc (.cells #[] 3)) := (Below.refl _ _).alloc (Nat.le_refl _) _
  have HB0 := Lib.hid b0
  have HO0 : Hid ((w.alloc (.cells #[] 3)).ownsRow w.heap.size 3 1 (.slice (some ⟨w.heap.size, 0, none⟩) 0 0) 0 (cellsI (List.replicate 0 (-1)))) := own_new0 w 3 1
  have HEND : Hid (∀ t, usN n l all L (t + 1) = usN n l all L t → rtT n l all L (t + 1) = L.map (resV n l all L)) := fun t h => rtT_end h
  obtain ⟨RV, hrv⟩ : ∃ RV : List Int, RV = L.map (resV n l all L) := ⟨_, rfl⟩
  rw [← hrv] at HEND ⊢
  have HRVL : Hid (RV.length = L.length) := by show _ = _; rw [hrv, List.length_map]
  have HLL := Lib.hid hLl
  clear ht hv hL b0 hrv
  go_enter Tryd.func39, Tryd.ntmps39
  go_wp2_with fail
  go_loopg [5, 6] L.length (fun g tv iv wr => ∃ (i : Nat) (ow : Value), ow = tv ∧ i + g = L.length ∧ iv = .int .i64 (i : Int) ∧ wr.ownsRow w.heap.size 3 1 ow i (cellsI (List.replicate i (-1))) ∧ Below w.heap.size w wr)
  case atStart => exact ⟨0, _, rfl, by omega, rfl, HO0.out, HB0.out⟩
  case round =>
    clear HO0 HB0
    obtain ⟨i, ow, rfl, hig, rfl, hown, hB⟩ := hrel
    obtain ⟨A4, c4, rfl⟩ := own_form hown
    have HB := Lib.hid hB
    have HO := Lib.hid hown
    cases gk with
    | succ g2 =>
      have hlt : i < L.length := by omega
      have hlt' : (i : Int) < ((rowN L).length : Int) := by rw [HRL.out]; omega
      have hsz := hB.size
      clear hown hB
      have hownx := HO.out
      go_wp2_with (at_builtin; refine wpList_append_own _ rfl _ _ 25 rfl w.heap.size 3 i0 (.int .i64 0) 1 8 Tryd.underlying25 hi hz0 hz1 hz2 rfl (by decide) _ _ _ rfl (hownx.alloc _) ⟨wr.heap.size, 0, none⟩ 1 1 [.int .i64 (-1)] rfl rfl (cell_one_new _ _ _) (fun x hx => by simp at hx; subst hx; rfl) (by unfold maxLen; omega) (by omega) (by simp; omega) ?_; intro v8 w8 hown8 hgrow8 _)
      have HO8 : Hid (w8.ownsRow w.heap.size 3 1 v8 (i + 1) (cellsI (List.replicate (i + 1) (-1)))) := by
        show World.ownsRow _ _ _ _ _ _ _
        rw [rep_succ, show cellsI (List.replicate i (-1) ++ [-1]) = cellsI (List.replicate i (-1)) ++ [.int .i64 (-1)] from by simp [cellsI]]
        exact hown8
      have HB8' := Lib.hid ((HB.out.alloc HB.out.size (.cells #[.int .i64 (-1)] 3)).grown hgrow8 (by simp; have := HB.out.size; omega) (fun p_ e_ => (HO.out.lt p_ e_).1))
      clear hown8 hgrow8 hownx
      go_roundg g2
      case measure => omega
      case rel => exact ⟨i + 1, v8, rfl, by omega, by go_num, HO8.out, HB8'.out⟩
    | zero =>
      obtain rfl : i = L.length := by omega
      have HO1 : Hid (wr.ownsRow w.heap.size 3 1 (.slice A4 L.length c4) L.length (cellsI (rtT n l all L 0))) := by
        show World.ownsRow _ _ _ _ _ _ _
        rw [HZ.out]; exact HO.out
      have hnl : ¬ ((L.length : Int) < ((rowN L).length : Int)) := by rw [HRL.out]; omega
      have HG0 : Hid (Goes n l all L 0) := Goes.zero n l all L
      clear hown hB HO
      go_wp2_with fail
      clear hnl
      go_loopg [5, 7] (L.length + 1) (fun g tv rv wr => ∃ (t : Nat) (A4 : Option Addr) (c4 : Nat), t + g = L.length + 1 ∧ tv = .slice A4 L.length c4 ∧ rv = .int .i64 (t : Int) ∧ Hid (Goes n l all L t) ∧ wr.ownsRow w.heap.size 3 1 (.slice A4 L.length c4) L.length (cellsI (rtT n l all L t)) ∧ Below w.heap.size w wr)
      case atStart => exact ⟨0, A4, c4, by omega, rfl, rfl, HG0, HO1.out, HB.out⟩
      case round =>
        clear HO1 HG0 HB
        obtain ⟨t, A4, c4, htg, rfl, rfl, hgo, hown, hB⟩ := hrel
        have htl : t ≤ L.length := by have := hgo.out; unfold Goes at this; omega
        cases gk with
        | zero => omega
        | succ g2 =>
          have hTL := rtT_len n l all L t
          have HTI : Hid (Ints wr (.slice A4 L.length c4) (rtT n l all L t)) := by
            show Ints _ _ _
            have h_ : Reads wr 1 (.slice A4 L.length c4) L.length (cellsI (rtT n l all L t)) := Reads.of_own hown
            unfold Ints
            rw [hTL]; exact h_
          have how := l1Own_any (.slice A4 L.length c4) (rtT n l all L t) wr HTI.out (by omega)
          unfold RowI at how
          rw [hTL] at how
          have HOW := Lib.hid how
          have HTW : Hid (∀ W, Below wr.heap.size wr W → Ints W (.slice A4 L.length c4) (rtT n l all L t)) := fun W hW => by
            have h_ := HTI.out.below hW
            rw [hTL] at h_
            show Reads _ _ _ _ _
            rw [hTL]; exact h_
          have HB := Lib.hid hB
          have hszo := hB.size
          have HN0' := Lib.hid (nxT_zero n l all L t)
          have HNA := Lib.hid (nxT_all n l all L t)
          have HNL := Lib.hid (fun i (h : i ≤ L.length) => nxT_len n l all L t h)
          obtain ⟨wo, hwo⟩ : ∃ wo, wo = wr := ⟨_, rfl⟩
          subst hwo
          clear hown hB hTL how
          go_wp2_with fail
          refine HOW.out.mono ?_
          rintro e w3 ⟨A6, c6, rfl, o6, b6⟩
          have HN3 : Hid (w3.ownsRow wo.heap.size 3 1 (.slice A6 L.length c6) L.length (cellsI (nxT n l all L t 0))) := by
            show World.ownsRow _ _ _ _ _ _ _
            rw [HN0'.out]; exact o6
          have HB3 := Lib.hid b6
          have HG3 : Hid (grB n l all L t 0 = false) := rfl
          clear o6 b6
          go_wp2_with fail
          go_loopg [9, 10] L.length (fun g gv iv wr => ∃ i : Nat, i + g = L.length ∧ gv = .bool (grB n l all L t i) ∧ iv = .int .i64 (i : Int) ∧ wr.ownsRow wo.heap.size 3 1 (.slice A6 L.length c6) L.length (cellsI (nxT n l all L t i)) ∧ Below wo.heap.size wo wr)
          case atStart => exact ⟨0, by omega, by rw [HG3.out], rfl, HN3.out, HB3.out⟩
          case round =>
            clear HN3 HB3 HG3
            obtain ⟨i, hig2, rfl, rfl, hown, hB1⟩ := hrel
            have HO := Lib.hid hown
            have HB1 := Lib.hid hB1
            have HBW := Lib.hid (btrans HB.out hB1)
            cases gk with
            | zero =>
              obtain rfl : i = L.length := by omega
              have hnl : ¬ ((L.length : Int) < ((rowN L).length : Int)) := by rw [HRL.out]; omega
              have HO1 := Lib.hid (own_base hown hszo)
              clear hown hB1
              cases hg : grB n l all L t L.length with
              | false =>
                have HE := Lib.hid (HEND.out t (grB_no hg))
                go_wp2_with fail
                go_ret
                refine ⟨A6, c6, by rw [HRVL.out]; rfl, ?_, HBW.out⟩
                rw [← HE.out, ← HNA.out, HNL.out _ (Nat.le_refl _)]
                exact HO1.out
              | true =>
                have HG1 := Lib.hid (hgo.out.next (grB_yes hg))
                clear hg
                go_wp2_with fail
                go_roundg g2
                case measure => omega
                case rel => exact ⟨t + 1, A6, c6, by omega, rfl, by go_num, HG1, by rw [← HNA.out]; exact HO1.out, HBW.out⟩
            | succ g3 =>
              have hlt : i < L.length := by omega
              have hlt' : (i : Int) < ((rowN L).length : Int) := by rw [HRL.out]; omega
              have hlt3 : (i : Int) < ((tblL n l all L).length : Int) := by rw [HTL.out]; omega
              have hlt2 : (i : Int) < (L.length : Int) := by omega
              obtain ⟨a, ha⟩ : ∃ a, L[i]? = some a := ⟨_, List.getElem?_eq_getElem hlt⟩
              have haL := List.mem_of_getElem? ha
              have ha8 := HB8.out a haL
              have hT1 := rtT_at (n := n) (l := l) (all := all) (t := t) ha
              have hneg := rt_neg (n := n) (l := l) (all := all) (t := t) haL
              obtain ⟨ua, gs, os, hua, hAs, cs, hus⟩ := (HT.out.below HBW.out).row (rowN_at ha)
              subst hAs
              obtain ⟨Aa, ca, rfl, -⟩ := hus.form
              obtain ⟨ub, gt, ot, hub, hAt, cb, uu, hut⟩ := (HVV.out.below HBW.out).row (HTA.out i a ha)
              subst hAt
              obtain ⟨Ab, cb_, rfl, -⟩ := hut.1
              obtain ⟨_, _, e1, hcc⟩ := (show Reads wr 1 (.slice A4 L.length c4) L.length (cellsI (rtT n l all L t)) from by have h_ := HTW.out wr hB1; unfold Ints at h_; rw [rtT_len] at h_; exact h_)
              cases e1
              obtain ⟨g1, o1, rfl, -, q1_⟩ := hcc (by omega)
              have q1 := q1_ i _ (cellsI_at hT1)
              have hGS := grB_succ (n := n) (l := l) (all := all) (t := t) ha
              have HTWr := Lib.hid (HTW.out)
              have HUS := Lib.hid hus
              have HUT := Lib.hid hut
              clear hcc q1_ hua hub
              by_cases hin : a ∈ usN n l all L t
              · rw [if_pos hin] at q1
                have HF := Lib.hid (fun (W : World) (hW : Below wr.heap.size wr W) => HFL.out a ha8 (rtT n l all L t) (rtT_len n l all L t) _ _ (.slice (some ⟨g1, o1, none⟩) L.length c4) uu W (HUS.out.below hW) (HUT.out.below hW) (HTWr.out W (btrans HB1.out hW)))
                rw [fal_hold] at HF
                rw [decide_eq_true hin] at hGS
                cases hh : holdB n l all (usN n l all L t) a with
                | true =>
                  rw [hh] at HF hGS
                  have HK := Lib.hid (nxT_keep (rt_stays ha hin hh) (by rw [hT1, if_pos hin]))
                  rw [Bool.not_true, Bool.and_false, Bool.or_false] at hGS
                  have HGS := Lib.hid hGS
                  have HOD := Lib.hid (fun (W : World) (hW : Below wr.heap.size wr W) => own_below HO.out hW)
                  clear hGS hneg hown hB1 hus hut hT1 hh hin
                  go_wp2_with fail
                  refine wp_region_held_drew (S := (fun w' : World => w'.cell? ⟨g1, o1 + i, none⟩ = some (.int .i64 (-1)) ∧ w'.cell? ⟨gs, os + i, none⟩ = some (.slice Aa (ndN a).length ca) ∧ w'.cell? ⟨gt, ot + i, none⟩ = some (.slice Ab (tbR l all L a n).length cb_))) (by kernel_rfl) (by (try dsimp only); simp [*]) (fun hHeld => ?_)
                  change wpAnyH _ _ _ _ _ _ #[false, false, false, false, false, false, false, false, false, false, false, false, false, false, false, false, false] _ _
                  refine wpAnyH_take (i := 0) (oi := ⟨some 31, _, _, _, _, _⟩) (v := ?_) rfl (by kernel_rfl) (by kernel_rfl) (by kernel_rfl) (fun _ _ _ h => h) (Or.inl ⟨by rfl, ?_⟩) (by assumption) ?_
                  rotate_left
                  · (intro w hSw; (try dsimp only at hSw); go_simp; (try (with_reducible rfl)))
                  try simp only [Act.put, List.setIfInBounds_toArray, List.set_cons_zero, List.set_cons_succ]
                  refine wpAnyH_take (i := 1) (oi := ⟨some 32, _, _, _, _, _⟩) (v := ?_) rfl (by kernel_rfl) (by kernel_rfl) (by kernel_rfl) (fun _ _ _ h => h) (Or.inl ⟨by rfl, ?_⟩) (by assumption) ?_
                  rotate_left
                  · (intro w hSw; (try dsimp only at hSw); go_simp; (try (with_reducible rfl)))
                  try simp only [Act.put, List.setIfInBounds_toArray, List.set_cons_zero, List.set_cons_succ]
                  refine wpAnyH_take (i := 2) (oi := ⟨some 33, _, _, _, _, _⟩) (v := ?_) rfl (by kernel_rfl) (by kernel_rfl) (by kernel_rfl) (fun _ _ _ h => h) (Or.inl ⟨by rfl, ?_⟩) (by assumption) ?_
                  rotate_left
                  · (intro w hSw; (try dsimp only at hSw); go_simp; (try (with_reducible rfl)))
                  try simp only [Act.put, List.setIfInBounds_toArray, List.set_cons_zero, List.set_cons_succ]
                  refine wpAnyH_take (i := 3) (oi := ⟨some 34, _, _, _, _, _⟩) (v := ?_) rfl (by kernel_rfl) (by kernel_rfl) (by kernel_rfl) (fun _ _ _ h => h) (Or.inl ⟨by rfl, ?_⟩) (by assumption) ?_
                  rotate_left
                  · (intro w hSw; (try dsimp only at hSw); go_simp; (try (with_reducible rfl)))
                  try simp only [Act.put, List.setIfInBounds_toArray, List.set_cons_zero, List.set_cons_succ]
                  refine wpAnyH_take (i := 4) (oi := ⟨some 35, _, _, _, _, _⟩) (v := ?_) rfl (by kernel_rfl) (by kernel_rfl) (by kernel_rfl) (fun _ _ _ h => h) (Or.inl ⟨by rfl, ?_⟩) (by assumption) ?_
                  rotate_left
                  · (intro w hSw; (try dsimp only at hSw); go_simp; (try (with_reducible rfl)))
                  try simp only [Act.put, List.setIfInBounds_toArray, List.set_cons_zero, List.set_cons_succ]
                  refine wpAnyH_take (i := 5) (oi := ⟨some 36, _, _, _, _, _⟩) (v := ?_) rfl (by kernel_rfl) (by kernel_rfl) (by kernel_rfl) (fun _ _ _ h => h) (Or.inl ⟨by rfl, ?_⟩) (by assumption) ?_
                  rotate_left
                  · (intro w hSw; (try dsimp only at hSw); go_simp; (try (with_reducible rfl)))
                  try simp only [Act.put, List.setIfInBounds_toArray, List.set_cons_zero, List.set_cons_succ]
                  refine wpAnyH_take (i := 6) (oi := ⟨some 37, _, _, _, _, _⟩) (v := ?_) rfl (by kernel_rfl) (by kernel_rfl) (by kernel_rfl) (fun _ _ _ h => h) (Or.inl ⟨by rfl, ?_⟩) (by assumption) ?_
                  rotate_left
                  · (intro w hSw; (try dsimp only at hSw); go_simp; (try (with_reducible rfl)))
                  try simp only [Act.put, List.setIfInBounds_toArray, List.set_cons_zero, List.set_cons_succ]
                  refine wpAnyH_take (i := 7) (oi := ⟨some 38, _, _, _, _, _⟩) (v := ?_) rfl (by kernel_rfl) (by kernel_rfl) (by kernel_rfl) (fun _ _ _ h => h) (Or.inl ⟨by rfl, ?_⟩) (by assumption) ?_
                  rotate_left
                  · (intro w hSw; (try dsimp only at hSw); go_simp; (try (with_reducible rfl)))
                  try simp only [Act.put, List.setIfInBounds_toArray, List.set_cons_zero, List.set_cons_succ]
                  refine wpAnyH_take (i := 8) (oi := ⟨some 39, _, _, _, _, _⟩) (v := ?_) rfl (by kernel_rfl) (by kernel_rfl) (by kernel_rfl) (fun _ _ _ h => h) (Or.inl ⟨by rfl, ?_⟩) (by assumption) ?_
                  rotate_left
                  · (intro w hSw; (try dsimp only at hSw); go_simp; (try (with_reducible rfl)))
                  try simp only [Act.put, List.setIfInBounds_toArray, List.set_cons_zero, List.set_cons_succ]
                  refine wpAnyH_take (i := 9) (oi := ⟨some 40, _, _, _, _, _⟩) (v := ?_) rfl (by kernel_rfl) (by kernel_rfl) (by kernel_rfl) (fun _ _ _ h => h) (Or.inl ⟨by rfl, ?_⟩) (by assumption) ?_
                  rotate_left
                  · (intro w hSw; (try dsimp only at hSw); go_simp; (try (with_reducible rfl)))
                  try simp only [Act.put, List.setIfInBounds_toArray, List.set_cons_zero, List.set_cons_succ]
                  refine wpAnyH_take (i := 10) (oi := ⟨some 41, _, _, _, _, _⟩) (v := ?_) rfl (by kernel_rfl) (by kernel_rfl) (by kernel_rfl) (fun _ _ _ h => h) (Or.inl ⟨by rfl, ?_⟩) (by assumption) ?_
                  rotate_left
                  · (intro w hSw; (try dsimp only at hSw); go_simp; (try (with_reducible rfl)))
                  try simp only [Act.put, List.setIfInBounds_toArray, List.set_cons_zero, List.set_cons_succ]
                  refine wpAnyH_take (i := 11) (oi := ⟨some 42, _, _, _, _, _⟩) (v := ?_) rfl (by kernel_rfl) (by kernel_rfl) (by kernel_rfl) (fun _ _ _ h => h) (Or.inl ⟨by rfl, ?_⟩) (by assumption) ?_
                  rotate_left
                  · (intro w hSw; (try dsimp only at hSw); go_simp; (try (with_reducible rfl)))
                  try simp only [Act.put, List.setIfInBounds_toArray, List.set_cons_zero, List.set_cons_succ]
                  refine wpAnyH_take (i := 12) (oi := ⟨some 43, _, _, _, _, _⟩) (v := ?_) rfl (by kernel_rfl) (by kernel_rfl) (by kernel_rfl) (fun _ _ _ h => h) (Or.inl ⟨by rfl, ?_⟩) (by assumption) ?_
                  rotate_left
                  · (intro w hSw; (try dsimp only at hSw); go_simp; (try (with_reducible rfl)))
                  try simp only [Act.put, List.setIfInBounds_toArray, List.set_cons_zero, List.set_cons_succ]
                  refine wpAnyH_take (i := 13) (oi := ⟨some 44, _, _, _, _, _⟩) (v := ?_) rfl (by kernel_rfl) (by kernel_rfl) (by kernel_rfl) (fun _ _ _ h => h) (Or.inl ⟨by rfl, ?_⟩) (by assumption) ?_
                  rotate_left
                  · (intro w hSw; (try dsimp only at hSw); go_simp; (try (with_reducible rfl)))
                  try simp only [Act.put, List.setIfInBounds_toArray, List.set_cons_zero, List.set_cons_succ]
                  refine wpAnyH_take (i := 14) (oi := ⟨some 45, _, _, _, _, _⟩) (v := ?_) rfl (by kernel_rfl) (by kernel_rfl) (by kernel_rfl) (fun _ _ _ h => h) (Or.inl ⟨by rfl, ?_⟩) (by assumption) ?_
                  rotate_left
                  · (intro w hSw; (try dsimp only at hSw); go_simp; (try (with_reducible rfl)))
                  try simp only [Act.put, List.setIfInBounds_toArray, List.set_cons_zero, List.set_cons_succ]
                  refine wpAnyH_ready (rs := [15]) (by kernel_rfl) (by simp) ?_
                  refine AllReadyH.cons (o := ⟨some 46, _, _, _, _, _⟩) rfl (fun K hK => ?_) AllReadyH.nil
                  go_simp
                  (with_reducible refine (HF.out wr.drew (Below.refl _ _).drew).mono ?_); rintro e w5 ⟨rfl, b5⟩; have d5 : Below wr.heap.size wr w5 := btrans (Below.refl _ _).drew b5; have k0 := nearv.cell_keep q1 d5; have k1 := nearv.cell_keep cs d5; have k2 := nearv.cell_keep cb d5
                  go_wp2_with fail
                  refine hK.out _ _ (by (try dsimp only); simp [*]) (fun hHeld => ?_)
                  clear hK K
                  try simp only [List.setIfInBounds_toArray, List.set_cons_zero, List.set_cons_succ]
                  refine wpAnyH_take (i := 16) (oi := ⟨some 47, _, _, _, _, _⟩) (v := ?_) rfl (by kernel_rfl) (by kernel_rfl) (by kernel_rfl) (fun _ _ _ h => h) (Or.inl ⟨by rfl, ?_⟩) (by assumption) ?_
                  rotate_left
                  · (intro w hSw; (try dsimp only at hSw); go_simp; (try (with_reducible rfl)))
                  try simp only [Act.put, List.setIfInBounds_toArray, List.set_cons_zero, List.set_cons_succ]
                  refine wpAnyH_done (by kernel_rfl) ?_ _
                  have HO5 := Lib.hid (HOD.out w5 d5)
                  have HB5 := Lib.hid (btrans HB1.out d5)
                  clear b5 d5 k0 k1 k2 q1 cs cb hHeld
                  go_wp2_with fail
                  go_roundg g3
                  case measure => omega
                  case rel => exact ⟨i + 1, by omega, by rw [HGS.out], by go_num, by rw [← HK.out]; exact HO5.out, HB5.out⟩
                | false =>
                  rw [hh] at HF hGS
                  have HK := Lib.hid (nxT_set (rt_falls ha hin hh))
                  have HNI := Lib.hid (HNL.out i (by omega))
                  obtain ⟨x0, hx0⟩ : ∃ x, (nxT n l all L t i)[i]? = some x := ⟨_, List.getElem?_eq_getElem (by rw [HNI.out]; exact hlt)⟩
                  obtain ⟨g6, hA6, -⟩ := own_at (i := i) hown (cellsI_at hx0)
                  subst hA6
                  rw [Bool.not_false, Bool.and_true, Bool.or_true] at hGS
                  have HGS := Lib.hid hGS
                  have HOD := Lib.hid (fun (W : World) (hW : Below wr.heap.size wr W) => own_below HO.out hW)
                  clear hGS hneg hown hB1 hus hut hT1 hh hin
                  go_wp2_with fail
                  refine wp_region_held_drew (S := (fun w' : World => w'.cell? ⟨g1, o1 + i, none⟩ = some (.int .i64 (-1)) ∧ w'.cell? ⟨gs, os + i, none⟩ = some (.slice Aa (ndN a).length ca) ∧ w'.cell? ⟨gt, ot + i, none⟩ = some (.slice Ab (tbR l all L a n).length cb_))) (by kernel_rfl) (by (try dsimp only); simp [*]) (fun hHeld => ?_)
                  change wpAnyH _ _ _ _ _ _ #[false, false, false, false, false, false, false, false, false, false, false, false, false, false, false, false, false] _ _
                  refine wpAnyH_take (i := 0) (oi := ⟨some 31, _, _, _, _, _⟩) (v := ?_) rfl (by kernel_rfl) (by kernel_rfl) (by kernel_rfl) (fun _ _ _ h => h) (Or.inl ⟨by rfl, ?_⟩) (by assumption) ?_
                  rotate_left
                  · (intro w hSw; (try dsimp only at hSw); go_simp; (try (with_reducible rfl)))
                  try simp only [Act.put, List.setIfInBounds_toArray, List.set_cons_zero, List.set_cons_succ]
                  refine wpAnyH_take (i := 1) (oi := ⟨some 32, _, _, _, _, _⟩) (v := ?_) rfl (by kernel_rfl) (by kernel_rfl) (by kernel_rfl) (fun _ _ _ h => h) (Or.inl ⟨by rfl, ?_⟩) (by assumption) ?_
                  rotate_left
                  · (intro w hSw; (try dsimp only at hSw); go_simp; (try (with_reducible rfl)))
                  try simp only [Act.put, List.setIfInBounds_toArray, List.set_cons_zero, List.set_cons_succ]
                  refine wpAnyH_take (i := 2) (oi := ⟨some 33, _, _, _, _, _⟩) (v := ?_) rfl (by kernel_rfl) (by kernel_rfl) (by kernel_rfl) (fun _ _ _ h => h) (Or.inl ⟨by rfl, ?_⟩) (by assumption) ?_
                  rotate_left
                  · (intro w hSw; (try dsimp only at hSw); go_simp; (try (with_reducible rfl)))
                  try simp only [Act.put, List.setIfInBounds_toArray, List.set_cons_zero, List.set_cons_succ]
                  refine wpAnyH_take (i := 3) (oi := ⟨some 34, _, _, _, _, _⟩) (v := ?_) rfl (by kernel_rfl) (by kernel_rfl) (by kernel_rfl) (fun _ _ _ h => h) (Or.inl ⟨by rfl, ?_⟩) (by assumption) ?_
                  rotate_left
                  · (intro w hSw; (try dsimp only at hSw); go_simp; (try (with_reducible rfl)))
                  try simp only [Act.put, List.setIfInBounds_toArray, List.set_cons_zero, List.set_cons_succ]
                  refine wpAnyH_take (i := 4) (oi := ⟨some 35, _, _, _, _, _⟩) (v := ?_) rfl (by kernel_rfl) (by kernel_rfl) (by kernel_rfl) (fun _ _ _ h => h) (Or.inl ⟨by rfl, ?_⟩) (by assumption) ?_
                  rotate_left
                  · (intro w hSw; (try dsimp only at hSw); go_simp; (try (with_reducible rfl)))
                  try simp only [Act.put, List.setIfInBounds_toArray, List.set_cons_zero, List.set_cons_succ]
                  refine wpAnyH_take (i := 5) (oi := ⟨some 36, _, _, _, _, _⟩) (v := ?_) rfl (by kernel_rfl) (by kernel_rfl) (by kernel_rfl) (fun _ _ _ h => h) (Or.inl ⟨by rfl, ?_⟩) (by assumption) ?_
                  rotate_left
                  · (intro w hSw; (try dsimp only at hSw); go_simp; (try (with_reducible rfl)))
                  try simp only [Act.put, List.setIfInBounds_toArray, List.set_cons_zero, List.set_cons_succ]
                  refine wpAnyH_take (i := 6) (oi := ⟨some 37, _, _, _, _, _⟩) (v := ?_) rfl (by kernel_rfl) (by kernel_rfl) (by kernel_rfl) (fun _ _ _ h => h) (Or.inl ⟨by rfl, ?_⟩) (by assumption) ?_
                  rotate_left
                  · (intro w hSw; (try dsimp only at hSw); go_simp; (try (with_reducible rfl)))
                  try simp only [Act.put, List.setIfInBounds_toArray, List.set_cons_zero, List.set_cons_succ]
                  refine wpAnyH_take (i := 7) (oi := ⟨some 38, _, _, _, _, _⟩) (v := ?_) rfl (by kernel_rfl) (by kernel_rfl) (by kernel_rfl) (fun _ _ _ h => h) (Or.inl ⟨by rfl, ?_⟩) (by assumption) ?_
                  rotate_left
                  · (intro w hSw; (try dsimp only at hSw); go_simp; (try (with_reducible rfl)))
                  try simp only [Act.put, List.setIfInBounds_toArray, List.set_cons_zero, List.set_cons_succ]
                  refine wpAnyH_take (i := 8) (oi := ⟨some 39, _, _, _, _, _⟩) (v := ?_) rfl (by kernel_rfl) (by kernel_rfl) (by kernel_rfl) (fun _ _ _ h => h) (Or.inl ⟨by rfl, ?_⟩) (by assumption) ?_
                  rotate_left
                  · (intro w hSw; (try dsimp only at hSw); go_simp; (try (with_reducible rfl)))
                  try simp only [Act.put, List.setIfInBounds_toArray, List.set_cons_zero, List.set_cons_succ]
                  refine wpAnyH_take (i := 9) (oi := ⟨some 40, _, _, _, _, _⟩) (v := ?_) rfl (by kernel_rfl) (by kernel_rfl) (by kernel_rfl) (fun _ _ _ h => h) (Or.inl ⟨by rfl, ?_⟩) (by assumption) ?_
                  rotate_left
                  · (intro w hSw; (try dsimp only at hSw); go_simp; (try (with_reducible rfl)))
                  try simp only [Act.put, List.setIfInBounds_toArray, List.set_cons_zero, List.set_cons_succ]
                  refine wpAnyH_take (i := 10) (oi := ⟨some 41, _, _, _, _, _⟩) (v := ?_) rfl (by kernel_rfl) (by kernel_rfl) (by kernel_rfl) (fun _ _ _ h => h) (Or.inl ⟨by rfl, ?_⟩) (by assumption) ?_
                  rotate_left
                  · (intro w hSw; (try dsimp only at hSw); go_simp; (try (with_reducible rfl)))
                  try simp only [Act.put, List.setIfInBounds_toArray, List.set_cons_zero, List.set_cons_succ]
                  refine wpAnyH_take (i := 11) (oi := ⟨some 42, _, _, _, _, _⟩) (v := ?_) rfl (by kernel_rfl) (by kernel_rfl) (by kernel_rfl) (fun _ _ _ h => h) (Or.inl ⟨by rfl, ?_⟩) (by assumption) ?_
                  rotate_left
                  · (intro w hSw; (try dsimp only at hSw); go_simp; (try (with_reducible rfl)))
                  try simp only [Act.put, List.setIfInBounds_toArray, List.set_cons_zero, List.set_cons_succ]
                  refine wpAnyH_take (i := 12) (oi := ⟨some 43, _, _, _, _, _⟩) (v := ?_) rfl (by kernel_rfl) (by kernel_rfl) (by kernel_rfl) (fun _ _ _ h => h) (Or.inl ⟨by rfl, ?_⟩) (by assumption) ?_
                  rotate_left
                  · (intro w hSw; (try dsimp only at hSw); go_simp; (try (with_reducible rfl)))
                  try simp only [Act.put, List.setIfInBounds_toArray, List.set_cons_zero, List.set_cons_succ]
                  refine wpAnyH_take (i := 13) (oi := ⟨some 44, _, _, _, _, _⟩) (v := ?_) rfl (by kernel_rfl) (by kernel_rfl) (by kernel_rfl) (fun _ _ _ h => h) (Or.inl ⟨by rfl, ?_⟩) (by assumption) ?_
                  rotate_left
                  · (intro w hSw; (try dsimp only at hSw); go_simp; (try (with_reducible rfl)))
                  try simp only [Act.put, List.setIfInBounds_toArray, List.set_cons_zero, List.set_cons_succ]
                  refine wpAnyH_take (i := 14) (oi := ⟨some 45, _, _, _, _, _⟩) (v := ?_) rfl (by kernel_rfl) (by kernel_rfl) (by kernel_rfl) (fun _ _ _ h => h) (Or.inl ⟨by rfl, ?_⟩) (by assumption) ?_
                  rotate_left
                  · (intro w hSw; (try dsimp only at hSw); go_simp; (try (with_reducible rfl)))
                  try simp only [Act.put, List.setIfInBounds_toArray, List.set_cons_zero, List.set_cons_succ]
                  refine wpAnyH_ready (rs := [15]) (by kernel_rfl) (by simp) ?_
                  refine AllReadyH.cons (o := ⟨some 46, _, _, _, _, _⟩) rfl (fun K hK => ?_) AllReadyH.nil
                  go_simp
                  (with_reducible refine (HF.out wr.drew (Below.refl _ _).drew).mono ?_); rintro e w5 ⟨rfl, b5⟩; have d5 : Below wr.heap.size wr w5 := btrans (Below.refl _ _).drew b5; have k0 := nearv.cell_keep q1 d5; have k1 := nearv.cell_keep cs d5; have k2 := nearv.cell_keep cb d5
                  go_wp2_with fail
                  refine hK.out _ _ (by (try dsimp only); simp [*]) (fun hHeld => ?_)
                  clear hK K
                  try simp only [List.setIfInBounds_toArray, List.set_cons_zero, List.set_cons_succ]
                  refine wpAnyH_take (i := 16) (oi := ⟨some 47, _, _, _, _, _⟩) (v := ?_) rfl (by kernel_rfl) (by kernel_rfl) (by kernel_rfl) (fun _ _ _ h => h) (Or.inl ⟨by rfl, ?_⟩) (by assumption) ?_
                  rotate_left
                  · (intro w hSw; (try dsimp only at hSw); go_simp; (try (with_reducible rfl)))
                  try simp only [Act.put, List.setIfInBounds_toArray, List.set_cons_zero, List.set_cons_succ]
                  refine wpAnyH_done (by kernel_rfl) ?_ _
                  have HO5 := Lib.hid (HOD.out w5 d5)
                  have HB5 := Lib.hid (btrans HB1.out d5)
                  clear b5 d5 k0 k1 k2 q1 cs cb hHeld
                  have hO5 := HO5.out
                  have f0 := hO5.cellAt i (by rw [Nat.mul_one]; exact hlt)
                  rw [cellsI_at hx0] at f0
                  have z0 := hO5.frozenAt i
                  have HST := Lib.hid (HO5.out.stored i (.int .i64 (t : Int))).1
                  clear hx0
                  go_wp2_with fail
                  go_roundg g3
                  case measure => omega
                  case rel =>
                    have h_ := HST.out
                    rw [cellsI_setR, HK.out] at h_
                    exact ⟨i + 1, by omega, by rw [HGS.out], by go_num, h_, HB5.out.setCell (by have := (HO5.out.lt g6 rfl).1; simp; omega) _⟩
              · rw [if_neg hin] at q1 hneg
                rw [decide_eq_false hin] at hGS hneg
                have HK := Lib.hid (nxT_keep (rt_fixed ha hin) (by rw [hT1, if_neg hin]))
                have hnn : decide (resV n l all L a < 0) = false := hneg
                rw [Bool.false_and, Bool.or_false] at hGS
                have HGS := Lib.hid hGS
                clear hGS hneg hown hB1 hus hut hT1
                generalize resV n l all L a = rv at *
                go_wp2_with fail
                refine wp_region_held_drew (S := (fun w' : World => w'.cell? ⟨g1, o1 + i, none⟩ = some (.int .i64 rv))) (by kernel_rfl) (by (try dsimp only); simp [*]) (fun hHeld => ?_)
                change wpAnyH _ _ _ _ _ _ #[false, false, false, false, false, false, false, false, false, false, false, false, false, false, false, false, false] _ _
                refine wpAnyH_take (i := 0) (oi := ⟨some 31, _, _, _, _, _⟩) (v := ?_) rfl (by kernel_rfl) (by kernel_rfl) (by kernel_rfl) (fun _ _ _ h => h) (Or.inl ⟨by rfl, ?_⟩) (by assumption) ?_
                rotate_left
                · (intro w hSw; (try dsimp only at hSw); go_simp; (try (with_reducible rfl)))
                try simp only [Act.put, List.setIfInBounds_toArray, List.set_cons_zero, List.set_cons_succ]
                refine wpAnyH_take (i := 1) (oi := ⟨some 32, _, _, _, _, _⟩) (v := ?_) rfl (by kernel_rfl) (by kernel_rfl) (by kernel_rfl) (fun _ _ _ h => h) (Or.inl ⟨by rfl, ?_⟩) (by assumption) ?_
                rotate_left
                · (intro w hSw; (try dsimp only at hSw); go_simp; (try (with_reducible rfl)))
                try simp only [Act.put, List.setIfInBounds_toArray, List.set_cons_zero, List.set_cons_succ]
                refine wpAnyH_take (i := 2) (oi := ⟨some 33, _, _, _, _, _⟩) (v := ?_) rfl (by kernel_rfl) (by kernel_rfl) (by kernel_rfl) (fun _ _ _ h => h) (Or.inl ⟨by rfl, ?_⟩) (by assumption) ?_
                rotate_left
                · (intro w hSw; (try dsimp only at hSw); go_simp; (try (with_reducible rfl)))
                try simp only [Act.put, List.setIfInBounds_toArray, List.set_cons_zero, List.set_cons_succ]
                refine wpAnyH_take (i := 3) (oi := ⟨some 34, _, _, _, _, _⟩) (v := ?_) rfl (by kernel_rfl) (by kernel_rfl) (by kernel_rfl) (fun _ _ _ h => h) (Or.inl ⟨by rfl, ?_⟩) (by assumption) ?_
                rotate_left
                · (intro w hSw; (try dsimp only at hSw); go_simp; (try (with_reducible rfl)))
                try simp only [Act.put, List.setIfInBounds_toArray, List.set_cons_zero, List.set_cons_succ]
                refine wpAnyH_take (i := 4) (oi := ⟨some 35, _, _, _, _, _⟩) (v := ?_) rfl (by kernel_rfl) (by kernel_rfl) (by kernel_rfl) (fun _ _ _ h => h) (Or.inl ⟨by rfl, ?_⟩) (by assumption) ?_
                rotate_left
                · (intro w hSw; (try dsimp only at hSw); go_simp; (try (with_reducible rfl)))
                try simp only [Act.put, List.setIfInBounds_toArray, List.set_cons_zero, List.set_cons_succ]
                refine wpAnyH_take (i := 5) (oi := ⟨some 36, _, _, _, _, _⟩) (v := ?_) rfl (by kernel_rfl) (by kernel_rfl) (by kernel_rfl) (fun _ _ _ h => h) (Or.inl ⟨by rfl, ?_⟩) (by assumption) ?_
                rotate_left
                · (intro w hSw; (try dsimp only at hSw); go_simp; (try (with_reducible rfl)))
                try simp only [Act.put, List.setIfInBounds_toArray, List.set_cons_zero, List.set_cons_succ]
                refine wpAnyH_take (i := 6) (oi := ⟨some 37, _, _, _, _, _⟩) (v := undef) rfl (by kernel_rfl) (by kernel_rfl) (by kernel_rfl) (fun _ _ _ h => h) (Or.inr ⟨by rfl, rfl⟩) (by assumption) ?_
                try simp only [Act.put, List.setIfInBounds_toArray, List.set_cons_zero, List.set_cons_succ]
                refine wpAnyH_take (i := 7) (oi := ⟨some 38, _, _, _, _, _⟩) (v := undef) rfl (by kernel_rfl) (by kernel_rfl) (by kernel_rfl) (fun _ _ _ h => h) (Or.inr ⟨by rfl, rfl⟩) (by assumption) ?_
                try simp only [Act.put, List.setIfInBounds_toArray, List.set_cons_zero, List.set_cons_succ]
                refine wpAnyH_take (i := 8) (oi := ⟨some 39, _, _, _, _, _⟩) (v := undef) rfl (by kernel_rfl) (by kernel_rfl) (by kernel_rfl) (fun _ _ _ h => h) (Or.inr ⟨by rfl, rfl⟩) (by assumption) ?_
                try simp only [Act.put, List.setIfInBounds_toArray, List.set_cons_zero, List.set_cons_succ]
                refine wpAnyH_take (i := 9) (oi := ⟨some 40, _, _, _, _, _⟩) (v := undef) rfl (by kernel_rfl) (by kernel_rfl) (by kernel_rfl) (fun _ _ _ h => h) (Or.inr ⟨by rfl, rfl⟩) (by assumption) ?_
                try simp only [Act.put, List.setIfInBounds_toArray, List.set_cons_zero, List.set_cons_succ]
                refine wpAnyH_take (i := 10) (oi := ⟨some 41, _, _, _, _, _⟩) (v := undef) rfl (by kernel_rfl) (by kernel_rfl) (by kernel_rfl) (fun _ _ _ h => h) (Or.inr ⟨by rfl, rfl⟩) (by assumption) ?_
                try simp only [Act.put, List.setIfInBounds_toArray, List.set_cons_zero, List.set_cons_succ]
                refine wpAnyH_take (i := 11) (oi := ⟨some 42, _, _, _, _, _⟩) (v := undef) rfl (by kernel_rfl) (by kernel_rfl) (by kernel_rfl) (fun _ _ _ h => h) (Or.inr ⟨by rfl, rfl⟩) (by assumption) ?_
                try simp only [Act.put, List.setIfInBounds_toArray, List.set_cons_zero, List.set_cons_succ]
                refine wpAnyH_take (i := 12) (oi := ⟨some 43, _, _, _, _, _⟩) (v := undef) rfl (by kernel_rfl) (by kernel_rfl) (by kernel_rfl) (fun _ _ _ h => h) (Or.inr ⟨by rfl, rfl⟩) (by assumption) ?_
                try simp only [Act.put, List.setIfInBounds_toArray, List.set_cons_zero, List.set_cons_succ]
                refine wpAnyH_take (i := 13) (oi := ⟨some 44, _, _, _, _, _⟩) (v := undef) rfl (by kernel_rfl) (by kernel_rfl) (by kernel_rfl) (fun _ _ _ h => h) (Or.inr ⟨by rfl, rfl⟩) (by assumption) ?_
                try simp only [Act.put, List.setIfInBounds_toArray, List.set_cons_zero, List.set_cons_succ]
                refine wpAnyH_take (i := 14) (oi := ⟨some 45, _, _, _, _, _⟩) (v := undef) rfl (by kernel_rfl) (by kernel_rfl) (by kernel_rfl) (fun _ _ _ h => h) (Or.inr ⟨by rfl, rfl⟩) (by assumption) ?_
                try simp only [Act.put, List.setIfInBounds_toArray, List.set_cons_zero, List.set_cons_succ]
                refine wpAnyH_take (i := 15) (oi := ⟨some 46, _, _, _, _, _⟩) (v := undef) rfl (by kernel_rfl) (by kernel_rfl) (by kernel_rfl) (fun _ _ _ h => h) (Or.inr ⟨by rfl, rfl⟩) (by assumption) ?_
                try simp only [Act.put, List.setIfInBounds_toArray, List.set_cons_zero, List.set_cons_succ]
                refine wpAnyH_take (i := 16) (oi := ⟨some 47, _, _, _, _, _⟩) (v := ?_) rfl (by kernel_rfl) (by kernel_rfl) (by kernel_rfl) (fun _ _ _ h => h) (Or.inl ⟨by rfl, ?_⟩) (by assumption) ?_
                rotate_left
                · (intro w hSw; (try dsimp only at hSw); go_simp; (try (with_reducible rfl)))
                try simp only [Act.put, List.setIfInBounds_toArray, List.set_cons_zero, List.set_cons_succ]
                refine wpAnyH_done (by kernel_rfl) ?_ _
                go_wp2_with fail
                go_roundg g3
                case measure => omega
                case rel => exact ⟨i + 1, by omega, by rw [HGS.out], by go_num, by rw [← HK.out]; exact HO.out.drew, HB1.out.drew⟩
end Go.Proofs.YtdhbaegkogklgaaDoor.ups

/- Guards: the contracts of the model's l10Known and Resistances. -/
namespace Go.Proofs.YtdhbaegkogklgaaDoor.ups
open Go.RowKit P2 words edges ints owns good adjs fns sets rets covs bags balls bitsI func lists times apps gridr grid trip minmax
set_option linter.unusedVariables false

theorem rsv_len (s k : Int) (l : List Ed) (all : Bool) : (inG (GrdOk s l k) (rsvL s l all k)).length ≤ 1048576 := by
  by_cases h : GrdOk s l k
  · rw [inG_yes h]
    unfold rsvL
    rw [List.length_map]
    have h8 := h.1.2.1
    have hks := h.2.2
    have := setsK_len (n := s.toNat) (k := k.toNat) (by omega) (by omega)
    omega
  · rw [inG_no h]; exact Nat.zero_le _
end Go.Proofs.YtdhbaegkogklgaaDoor.ups
