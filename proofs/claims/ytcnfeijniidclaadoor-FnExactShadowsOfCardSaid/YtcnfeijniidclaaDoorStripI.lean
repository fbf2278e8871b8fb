/- The contract of the program's strip. -/
import Derived.Handy
import Derived.Test.YtcnfeijniidclaaDoorLeast
import Derived.Test.YtcnfeijniidclaaDoorCorI
namespace Go.Proofs.YtcnfeijniidclaaDoor.strip
open Go.RowKit P2 words edges ints good adjs fns sets rets covs cors dism least
set_option linter.unusedVariables false

/-- a list of pairs and a set are returned -/
def RowP (w : World) (l : List Ed) (B : Nat) (e : Ending) (w' : World) : Prop :=
  ∃ A c, e = .returned (.tuple #[.slice A l.length c, .int .u64 (B : Int)]) ∧ w'.ownsRow w.heap.size 43 2 (.slice A l.length c) l.length (cellsE l) ∧ Below w.heap.size w w'
set_option maxHeartbeats 4000000 in
set_option maxRecDepth 100000 in
theorem implStrip_any (n : Nat) (v : Value) (l : List Ed) (w : World) (hE : Env w) (h : Edges w v l) (hl : l.length ≤ 1048576) (hg : P2.Good n l) (hn : n ≤ 8) :
    Calls Tryd.prog 22 #[.agg #[.int .i64 (n : Int), v]] w (RowP w (stripL l n) (coreB l n)) := by
  obtain ⟨i0, hi, hz0, hz1, hz2⟩ := info_parts infoEd
  obtain ⟨A, c, rfl, -⟩ := h.form
  have H := Lib.hid h
  have HE := Lib.hid hE
  have HGD := Lib.hid hg
  have b0 : Below w.heap.size w (w.alloc (.cells #[.int .i64 (n : Int), .slice A l.length c] 29)) := (Below.refl _ _).alloc (Nat.le_refl _) _
  have g0 := Blk.new w 29 #[.int .i64 (n : Int), .slice A l.length c]
  have HW1 : Hid (IntKind.u64.wrap (IntKind.u64.wrap ((2 : Int) ^ n) - 1) = ((2 ^ n - 1 : Nat) : Int)) := by
    show _ = _
    have hpn : 2 ^ n ≤ 256 := by have := Nat.pow_le_pow_right (show 0 < 2 by decide) hn; simpa using this
    have hp1 : 1 ≤ 2 ^ n := Nat.one_le_two_pow
    rw [bitsI.wrap_pow hn, IntKind.wrap_u64]
    generalize 2 ^ n = z at *
    omega
  clear h hE hg
  go_enter Tryd.func22, Tryd.ntmps22
  go_wp2_with fail
  refine (bitsI.closedBits_any n _ l _ (H.out.below b0) hl HGD.out hn).mono ?_
  rintro e w2 ⟨A2, c2, rfl, r2, b2⟩
  have e2 := btrans b0 b2
  have g2 := g0.below b2 g0.lt
  obtain ⟨p0, p1, -, -⟩ := g2.two
  have HCI := Lib.hid (fun (W : World) (k : Nat) (hb : Below w2.heap.size w2 W) => cornersIn_any n (sB l n k) _ l W (r2.below hb) HGD.out hn (sB_lt hn k))
  have HCV := Lib.hid (fun (W : World) (k x : Nat) (hb : Below w2.heap.size w2 W) (hx : x < n) => bitsI.coversIn_any n (sB l n k) x _ l W (r2.below hb) HGD.out hn (sB_lt hn k) hx)
  clear b0 b2 g0 g2 r2
  go_wp2_with fail
  clear p0 p1
  go_loopg [5, 6] n (fun g bb sv wr => ∃ (k : Nat) (v : Value), v = sv ∧ k + g = n ∧ bb = .int .u64 (sB l n k : Int) ∧ Hid (∀ j, j < k → More l n j) ∧ wr.ownsRow w2.heap.size 43 2 v (sL l n k).length (cellsE (sL l n k)) ∧ Below w2.heap.size w2 wr)
  case atStart => exact ⟨0, _, rfl, by omega, by rw [HW1.out]; rfl, fun j hj => by omega, World.ownsRow_nil _ _ _ _, Below.refl _ _⟩
  case round =>
    obtain ⟨k, sv, rfl, hkg, rfl, hmore, hrow, hB⟩ := hrel
    have hlen := sL_len l n k
    have hks := szn_sum hn k hmore.out
    have HC1 := Lib.hid (HCI.out wr k hB)
    by_cases hm : cornersN l n (sB l n k) = 0
    · have HK := Lib.hid (kL_eq hn hmore.out hm)
      rw [hm] at HC1
      have HR := Lib.hid hrow
      have HBB := Lib.hid hB
      obtain ⟨A3, c3, rfl⟩ := own_form hrow
      clear hm hrow hB hlen
      go_wp2_with fail
      refine HC1.out.mono ?_
      rintro e w3 ⟨rfl, b3⟩
      go_wp2_with fail
      go_ret2
      have hr3 := own_below HR.out b3
      unfold RowP stripL coreB
      rw [HK.out]
      exact ⟨A3, c3, rfl, own_base hr3 e2.size, btrans e2 (btrans HBB.out b3)⟩
    · have hM : More l n k := hm
      obtain ⟨x, hx1, hx2, hx3, hx4, -⟩ := more_x hM
      have HX := Lib.hid (ctz_x hn hM)
      have HY := Lib.hid (ctz_y hn hM)
      have HCX := Lib.hid (HCV.out · k x · hx2)
      have hc256 : cornersN l n (sB l n k) < 256 := numOf_lt _ hn
      have hv256 : coversN l n (sB l n k) x < 256 := numOf_lt _ hn
      have HSB : Hid (sB l n (k + 1) = clr (sB l n k) x) := by show _ = _; rw [sB_succ, hx1, Int.toNat_natCast]
      have HSL := Lib.hid (sL_succ l n k)
      have HAN := Lib.hid (andNot_walk (sB l n k) x (sB_lt hn k) (by omega))
      have HMO : Hid (∀ j, j < k + 1 → More l n j) := fun j hj => by
        by_cases e : j = k
        · subst e; exact hM
        · exact hmore.out j (by omega)
      have hless := szn_less hn hM
      have dc : ((cornersN l n (sB l n k) : Int) == 0) = false := by simp; omega
      rw [hx1] at HX
      rw [hx1, Int.toNat_natCast] at HY
      have HX1 := Lib.hid hx1
      have hgk : 0 < gk := by omega
      have HL1 := Lib.hid (fun (W : World) (hw : Env W) => least_any (cornersN l n (sB l n k)) hc256 hm W hw)
      have HL2 := Lib.hid (fun (W : World) (hw : Env W) => least_any (coversN l n (sB l n k) x) hv256 hx4 W hw)
      rw [HX.out] at HL1
      rw [HY.out] at HL2
      have hx8 : x ≤ 8 := by omega
      clear hx1 hx3 hx4 hM hc256 hv256 hmore hks hless hm
      generalize cornersN l n (sB l n k) = cn at *
      generalize coversN l n (sB l n k) x = cv at *
      cases gk with
      | zero => omega
      | succ g2 =>
        go_wp2_with fail
        refine HC1.out.mono ?_
        rintro e w3 ⟨rfl, b3⟩
        have e3 := btrans hB b3
        go_wp2_with fail
        clear dc
        refine (HL1.out w3 (HE.out.next (btrans e2 e3))).mono ?_
        rintro e w4 ⟨rfl, rfl⟩
        go_wp2_with fail
        refine (HCX.out w3 e3).mono ?_
        rintro e w5 ⟨rfl, b5⟩
        have e5 := btrans e3 b5
        go_wp2_with fail
        refine (HL2.out w5 (HE.out.next (btrans e2 e5))).mono ?_
        rintro e w6 ⟨rfl, rfl⟩
        have hrow5 := own_below hrow (btrans b3 b5)
        have hsz5 := e5.size
        have hlen8 : (sL l n k).length ≤ 8 := by omega
        have HB5 := Lib.hid e5
        clear hrow hB b3 e3 b5 hlen
        generalize sL l n k = m at *
        generalize sY l n k = yy at *
        go_wp2_with (at_builtin; refine wpList_append_own _ rfl _ _ 22 rfl w2.heap.size 43 i0 (.agg #[.int .i64 0, .int .i64 0]) 2 16 Tryd.underlying22 hi hz0 hz1 hz2 rfl (by decide) _ _ _ rfl (hrow5.alloc _) ⟨w5.heap.size, 0, none⟩ 1 1 [.int .i64 (x : Int), .int .i64 yy] rfl rfl (cell_two_new _ _ _ _) (fun x hx => by simp at hx; rcases hx with rfl | rfl <;> rfl) (by unfold maxLen; omega) (by omega) (by simp; omega) ?_; intro v2 w7 hown2 hgrow2 _)
        obtain ⟨hown3, hB2⟩ := pushE hrow5 hown2 hgrow2 hsz5
        have HB7 := Lib.hid (HB5.out.trans hB2)
        clear hgrow2 hrow5 hown2 e5 hB2
        go_roundg g2
        case measure => omega
        case rel => exact ⟨k + 1, _, rfl, by omega, by rw [HSB.out, HAN.out], HMO, by rw [HSL.out, HX1.out]; exact hown3, HB7.out⟩
end Go.Proofs.YtcnfeijniidclaaDoor.strip
