/- FrontBound: the contract of the model's function. -/
import Derived.Handy
import Derived.Test.YtbbgbepemnmfdaaFbdI
import Derived.Test.YtbbgbepemnmfdaaFrontS
import Derived.Test.YtbbgbepemnmfdaaMinMax
import Derived.Deep.DeepCutAuto
import Derived.Deep.RegionHeld3
namespace Go.Proofs.Ytbbgbepemnmfdaa.ups
open Go.RowKit P2 words edges ints good adjs fns sets rets covs reach bags balls bitsI func fronts
set_option linter.unusedVariables false

theorem fro_code {l : List Ed} {n c : Nat} (hc : c < 2 ^ n) : (froL n l (nw (bitB c) n)).length = frC l n c := by
  unfold froL frC
  congr 1
  refine covs.nw_congr fun z hz => frontB_congr (fun y hy => ?_) hz
  unfold goneB bitB
  rw [Bool.eq_iff_iff, decide_eq_true_iff, mem_nw]
  constructor
  · rintro ⟨j, hj, hb, e⟩
    have : y = j := by omega
    subst this
    exact hb
  · intro h
    exact ⟨y, hy, h, rfl⟩
def LeK (l : List Ed) (n m k : Nat) (u : Int) : Prop := (u = -1 ∧ ∀ c, c < k → onesN c ≠ m) ∨ ((∃ c, c < k ∧ onesN c = m ∧ (frC l n c : Int) = u) ∧ ∀ c, c < k → onesN c = m → u ≤ (frC l n c : Int))
theorem LeK.start (l : List Ed) (n m : Nat) : LeK l n m 0 (-1) := .inl ⟨rfl, fun c hc => by omega⟩
theorem LeK.skip {l : List Ed} {n m k : Nat} {u : Int} (h : LeK l n m k u) (hk : onesN k ≠ m) : LeK l n m (k + 1) u := by
  rcases h with ⟨h1, h2⟩ | ⟨⟨c, h1, h2, h3⟩, h4⟩
  · refine .inl ⟨h1, fun c hc => ?_⟩
    by_cases e : c = k
    · subst e; exact hk
    · exact h2 c (by omega)
  · refine .inr ⟨⟨c, by omega, h2, h3⟩, fun d hd ho => ?_⟩
    by_cases e : d = k
    · subst e; exact absurd ho hk
    · exact h4 d (by omega) ho
theorem LeK.take {l : List Ed} {n m k : Nat} {u : Int} (h : LeK l n m k u) (hk : onesN k = m) (hu : u < 0 ∨ (frC l n k : Int) < u) : LeK l n m (k + 1) (frC l n k : Int) := by
  refine .inr ⟨⟨k, by omega, hk, rfl⟩, fun d hd ho => ?_⟩
  by_cases e : d = k
  · subst e; omega
  · rcases h with ⟨h1, h2⟩ | ⟨⟨c, h1, h2, h3⟩, h4⟩
    · exact absurd ho (h2 d (by omega))
    · have := h4 d (by omega) ho; omega
theorem LeK.keep {l : List Ed} {n m k : Nat} {u : Int} (h : LeK l n m k u) (hk : onesN k = m) (h0 : ¬ u < 0) (hu : ¬ (frC l n k : Int) < u) : LeK l n m (k + 1) u := by
  rcases h with ⟨h1, h2⟩ | ⟨⟨c, h1, h2, h3⟩, h4⟩
  · omega
  · refine .inr ⟨⟨c, by omega, h2, h3⟩, fun d hd ho => ?_⟩
    by_cases e : d = k
    · subst e; omega
    · exact h4 d (by omega) ho
theorem LeK.all {l : List Ed} {n m : Nat} {u : Int} (hn : n ≤ 8) (hm : m ≤ n) (h : LeK l n m (2 ^ n) u) : MinF l n m u := by
  rcases h with ⟨h1, h2⟩ | ⟨⟨c, h1, h2, h3⟩, h4⟩
  · obtain ⟨k1, k2⟩ := ones_ex ⟨n, by omega⟩ ⟨m, by omega⟩ hm
    simp only at k1 k2
    exact absurd k1 (h2 _ k2)
  · exact ⟨⟨c, h1, h2, h3⟩, h4⟩
theorem LeK.bound {l : List Ed} {n m k : Nat} {u : Int} (h : LeK l n m k u) : -1 ≤ u ∧ u ≤ (n : Int) := by
  rcases h with ⟨h1, h2⟩ | ⟨⟨c, h1, h2, h3⟩, h4⟩
  · omega
  · have : frC l n c ≤ n := nw_len _ _
    omega
def GrK (l : List Ed) (n m : Nat) (M : Int) : Prop := ((m = 0 ∧ M = 0) ∨ ∃ j, j < m ∧ MinF l n j M) ∧ ∀ j u, j < m → MinF l n j u → u ≤ M
theorem MinF.pos {l : List Ed} {n m : Nat} {u : Int} (h : MinF l n m u) : 0 ≤ u ∧ u ≤ (n : Int) := by
  obtain ⟨c, _, _, h3⟩ := h.1
  have : frC l n c ≤ n := nw_len _ _
  omega
theorem GrK.next {l : List Ed} {n m : Nat} {M v : Int} (h : GrK l n m M) (hv : MinF l n m v) : GrK l n (m + 1) (max M v) := by
  have hp := hv.pos
  refine ⟨.inr ?_, fun j u hj hu => ?_⟩
  · rcases h.1 with ⟨rfl, rfl⟩ | ⟨j, hj, hm⟩
    · exact ⟨0, by omega, by rw [Int.max_eq_right hp.1]; exact hv⟩
    · by_cases hle : M ≤ v
      · exact ⟨m, by omega, by rw [Int.max_eq_right hle]; exact hv⟩
      · exact ⟨j, by omega, by rw [Int.max_eq_left (by omega)]; exact hm⟩
  · by_cases e : j = m
    · subst e; rw [hu.same hv]; omega
    · have := h.2 j u (by omega) hu; omega
theorem GrK.all {l : List Ed} {n : Nat} {M : Int} (h : GrK l n (n + 1) M) : GrF l n M := by
  refine ⟨?_, fun m u hm hu => h.2 m u (by omega) hu⟩
  rcases h.1 with ⟨h1, _⟩ | ⟨j, hj, hm⟩
  · omega
  · exact ⟨j, by omega, hm⟩
theorem GrK.bound {l : List Ed} {n m : Nat} {M : Int} (h : GrK l n m M) : 0 ≤ M ∧ M ≤ (n : Int) := by
  rcases h.1 with ⟨_, rfl⟩ | ⟨j, hj, hm⟩
  · omega
  · exact hm.pos
set_option maxHeartbeats 4000000 in
set_option maxRecDepth 100000 in
theorem specFbd_any (s : Int) (v : Value) (l : List Ed) (w : World) (h : Edges w v l) (hl : l.length ≤ 1048576) (hs1 : -9223372036854775808 ≤ s) (hs2 : s ≤ 9223372036854775807) :
    Calls Try.prog 24 #[.agg #[.int .i64 s, v]] w fun e w' => e = .returned (.tuple #[.int .i64 (fbdV s l), .bool (goodB s l)]) ∧ Below w.heap.size w w' := by
  obtain ⟨A, c, rfl, -⟩ := h.form
  have H := Lib.hid h
  have b0 : Below w.heap.size w (w.alloc (.cells #[.int .i64 s, .slice A l.length c] 29)) := (Below.refl _ _).alloc (Nat.le_refl _) _
  have g0 := Blk.new w 29 #[.int .i64 s, .slice A l.length c]
  obtain ⟨p0, p1, -, -⟩ := g0.two
  have HG := Lib.hid (l2Good_any s _ l _ (h.below b0) hl hs1 hs2)
  have HB0 := Lib.hid b0
  have HG0 := Lib.hid g0
  clear h b0 g0
  by_cases hgd : P2.Good s l
  · rw [goodB_yes hgd] at HG ⊢
    have h0 := hgd.1
    have h8 := hgd.2.1
    obtain ⟨n, rfl⟩ : ∃ n : Nat, s = (n : Int) := ⟨s.toNat, by omega⟩
    have hn : n ≤ 8 := by omega
    have HV : Hid (fbdV (n : Int) l = fbdN l n) := by show _ = _; unfold fbdV; rw [szG_yes hgd, Int.toNat_natCast]
    have HOK := Lib.hid hgd
    clear hgd
    have HPW := Lib.hid (pow_le hn)
    have HGA := Lib.hid (fun (M : Int) (h : GrK l n (n + 1) M) => fbdN_is h.all)
    have HLA := Lib.hid (fun (m : Nat) (hm : m ≤ n) (u : Int) (h : LeK l n m (2 ^ n) u) => LeK.all hn hm h)
    have HND : Hid (∀ c, c < 2 ^ n → (nw (bitB c) n).length = onesN c) := fun c hc => by rw [nd_bits hn hc]; rfl
    have HFC := Lib.hid (fun (c : Nat) (hc : c < 2 ^ n) => fro_code (l := l) hc)
    have HG00 : Hid (GrK l n 0 0) := ⟨.inl ⟨rfl, rfl⟩, fun j u hj => by omega⟩
    have hsh : IntKind.i64.wrap ((2 : Int) ^ n) = ((2 ^ n : Nat) : Int) := by
      have hpn := pow_le hn
      rw [show ((2 : Int) ^ n) = ((2 ^ n : Nat) : Int) from by simp]
      generalize 2 ^ n = z at *
      exact Go.IntWalk.i64_in _ (by omega)
    have hN256 := HPW.out
    generalize hNN : 2 ^ n = N at *
    clear hNN
    go_enter Try.func24, Try.ntmps24
    go_wp2_with fail
    refine HG.out.mono ?_
    rintro e w1 ⟨rfl, b1⟩
    have HE1 := Lib.hid (btrans HB0.out b1)
    have HG1 := Lib.hid (HG0.out.below b1 HG0.out.lt)
    clear p0 p1 b1 HG HB0 HG0
    go_wp2_with fail
    go_loopg [4, 5] (n + 1) (fun g Mv mv wr => ∃ (m : Nat) (M : Int), m + g = n + 1 ∧ Mv = .int .i64 M ∧ mv = .int .i64 (m : Int) ∧ Hid (GrK l n m M) ∧ Blk wr w.heap.size 29 #[.int .i64 (n : Int), .slice A l.length c] ∧ Below w.heap.size w wr)
    case atStart => exact ⟨0, 0, by omega, rfl, rfl, HG00, HG1.out, HE1.out⟩
    case round =>
      clear HG00 HG1 HE1
      obtain ⟨m, M, hmg, rfl, rfl, hgr, hgb, hB⟩ := hrel
      obtain ⟨p0, p1, -, -⟩ := hgb.two
      have HG := Lib.hid hgb
      have HB := Lib.hid hB
      have hMb := hgr.out.bound
      clear hgb hB
      cases gk with
      | zero =>
        obtain rfl : m = n + 1 := by omega
        have hge : ¬ ((n + 1 : Nat) : Int) ≤ (n : Int) := by omega
        have hge2 : ¬ n + 1 ≤ n := by omega
        have HVV := Lib.hid (HGA.out M hgr.out)
        go_wp2_with fail
        go_ret2
        rw [HV.out, HVV.out]
        exact ⟨rfl, HB.out⟩
      | succ g2 =>
        have hmn : m ≤ n := by omega
        have hmn' : (m : Int) ≤ (n : Int) := by omega
        have HL0 := Lib.hid (LeK.start l n m)
        clear p0 p1
        obtain ⟨p0, p1, -, -⟩ := HG.out.two
        go_wp2_with fail
        obtain ⟨wo, hwo⟩ : ∃ wo, wo = wr := ⟨_, rfl⟩
        subst hwo
        clear p0 p1
        go_loopg [6, 7] N (fun g uv kv wr => ∃ (k : Nat) (u : Int), k + g = N ∧ uv = .int .i64 u ∧ kv = .int .i64 (k : Int) ∧ Hid (LeK l n m k u) ∧ Blk wr w.heap.size 29 #[.int .i64 (n : Int), .slice A l.length c] ∧ Below w.heap.size w wr)
        case atStart => exact ⟨0, -1, by omega, rfl, rfl, HL0, HG.out, HB.out⟩
        case round =>
          clear HL0 HG HB
          obtain ⟨k, u, hkg, rfl, rfl, hle, hgb, hB⟩ := hrel
          obtain ⟨p0, p1, -, -⟩ := hgb.two
          have HG := Lib.hid hgb
          have HB := Lib.hid hB
          have hub := hle.out.bound
          clear hgb hB
          cases gk with
          | zero =>
            obtain rfl : k = N := by omega
            have HN := Lib.hid (hgr.out.next (HLA.out m hmn u hle.out))
            have HMA := Lib.hid (fun (W : World) => minmax.l1Most_any M u W)
            go_wp2_with fail
            refine (HMA.out _).mono ?_
            rintro e w' ⟨rfl, rfl⟩
            go_wp2_with fail
            go_roundg g2
            case measure => omega
            case rel => exact ⟨m + 1, max M u, by omega, rfl, by go_num, HN, HG.out, HB.out⟩
          | succ g3 =>
            have hkN : k < N := by omega
            have hkN' : (k : Int) < (N : Int) := by omega
            have HBI := Lib.hid (l2Bits_any n k wr hn (by omega))
            have HON := Lib.hid (HND.out k hkN)
            have hkl := nw_len (bitB k) n
            go_wp2_with fail
            refine HBI.out.mono ?_
            rintro e w3 ⟨A5, c5, rfl, o5, b5⟩
            have HB3 := Lib.hid (btrans HB.out b5)
            have HG3 := Lib.hid (HG.out.below b5 HG.out.lt)
            have HI3 : Hid (Ints w3 (.slice A5 (nw (bitB k) n).length c5) (nw (bitB k) n)) := Reads.of_own o5
            clear p0 p1 b5 o5
            obtain ⟨p0, p1, -, -⟩ := HG3.out.two
            by_cases hom : onesN k = m
            · have d0 : (((nw (bitB k) n).length : Int) != (m : Int)) = false := by rw [HON.out, hom]; simp
              have d1 : ((nw (bitB k) n).length != m) = false := by rw [HON.out, hom]; simp
              have HFR := Lib.hid (l6Front_any n (.slice A l.length c) (.slice A5 (nw (bitB k) n).length c5) l (nw (bitB k) n) w3 (H.out.below HB3.out) hl HI3.out (by omega) hn (fun x hx => by obtain ⟨j, hj, _, rfl⟩ := mem_nw.1 hx; omega))
              have HFL := Lib.hid (HFC.out k hkN)
              have HTK := Lib.hid (fun (h : u < 0 ∨ (frC l n k : Int) < u) => hle.out.take hom h)
              have HKP := Lib.hid (fun (h0 : 0 ≤ u) (h : ¬ (frC l n k : Int) < u) => hle.out.keep hom (by omega) h)
              rw [← HFL.out] at HTK HKP
              have hfl8 : (froL n l (nw (bitB k) n)).length ≤ n := nw_len _ _
              clear hom hle HFL
              generalize froL n l (nw (bitB k) n) = fl at *
              go_wp2_with fail
              refine HFR.out.mono ?_
              rintro e w4 ⟨A6, c6, rfl, o6, b6⟩
              have HB4 := Lib.hid (btrans HB3.out b6)
              have HG4 := Lib.hid (HG3.out.below b6 HG3.out.lt)
              clear p0 p1 b6 o6
              by_cases hu0 : u < 0
              · have HN := Lib.hid (HTK.out (.inl hu0))
                go_wp2_with fail
                go_roundg g3
                case measure => omega
                case rel => exact ⟨k + 1, _, by omega, rfl, by go_num, HN, HG4.out, HB4.out⟩
              · by_cases hfu : (fl.length : Int) < u
                · have HN := Lib.hid (HTK.out (.inr hfu))
                  go_wp2_with fail
                  go_roundg g3
                  case measure => omega
                  case rel => exact ⟨k + 1, _, by omega, rfl, by go_num, HN, HG4.out, HB4.out⟩
                · have HN := Lib.hid (HKP.out (by omega) (by omega))
                  go_wp2_with fail
                  go_roundg g3
                  case measure => omega
                  case rel => exact ⟨k + 1, _, by omega, rfl, by go_num, HN, HG4.out, HB4.out⟩
            · have d1 : ((nw (bitB k) n).length != m) = true := by rw [HON.out]; simpa using hom
              have d0 : (((nw (bitB k) n).length : Int) != (m : Int)) = true := by rw [HON.out]; simp; omega
              have HN := Lib.hid (hle.out.skip hom)
              clear hom
              go_wp2_with fail
              go_roundg g3
              case measure => omega
              case rel => exact ⟨k + 1, _, by omega, rfl, by go_num, HN, HG3.out, HB3.out⟩
  · rw [goodB_no hgd] at HG ⊢
    have HV : Hid (fbdV s l = 0) := szG_no hgd _
    clear hgd
    go_enter Try.func24, Try.ntmps24
    go_wp2_with fail
    refine HG.out.mono ?_
    rintro e w1 ⟨rfl, b1⟩
    have HE1 := Lib.hid (btrans HB0.out b1)
    clear p0 p1 b1
    go_wp2_with fail
    go_ret2
    rw [HV.out]
    exact ⟨rfl, HE1.out⟩
end Go.Proofs.Ytbbgbepemnmfdaa.ups
