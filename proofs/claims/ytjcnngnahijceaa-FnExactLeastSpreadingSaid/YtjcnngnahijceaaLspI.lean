/- The contract of the program's LeastSpreading. -/
import Derived.Handy
import Derived.Test.YtjcnngnahijceaaUpsB
import Derived.Test.YtjcnngnahijceaaFstS
import Derived.Test.YtjcnngnahijceaaSpreI
import Derived.Deep.DeepCutAuto
import Derived.Deep.RegionHeld3
import Derived.Deep.QuietTactic
namespace Go.Proofs.Ytjcnngnahijceaa.ups
open Go.RowKit P2 words edges ints good adjs fns sets rets covs bags bitsI func
set_option linter.unusedVariables false

/-- a set is spreading -/
noncomputable def fullB (n : Nat) (l : List Ed) (r c : Nat) : Bool := spN n l r c == 2 ^ n - 1
theorem full_all (n : Nat) (l : List Ed) (r : Nat) : fullB n l r (2 ^ n - 1) = true := by
  unfold fullB
  rw [spN_is Spr.base (full_stops rfl)]
  simp
noncomputable def lspN (n : Nat) (l : List Ed) (r : Nat) : Nat := bestC (fullB n l r) rkMin n
theorem beq_cast (a b : Nat) : (((a : Nat) : Int) == ((b : Nat) : Int)) = (a == b) := by
  rw [Bool.eq_iff_iff, beq_iff_eq, beq_iff_eq]; omega
set_option maxHeartbeats 1000000 in
set_option maxRecDepth 100000 in
theorem lspClo_any (n r d b1 b2 b3 : Nat) (v sv : Value) (l : List Ed) (w : World) (h1 : w.cell? ⟨b1, 0, none⟩ = some v) (h2 : w.cell? ⟨b2, 0, none⟩ = some (.int .i64 (r : Int))) (h3 : w.cell? ⟨b3, 0, none⟩ = some (.int .i64 (n : Int))) (h : Nums w v (clos l n)) (hg : P2.Good (n : Int) l) (hn : n ≤ 8) (hd : d < 2 ^ n) :
    Calls Try.prog 76 #[.int .u64 (d : Int), .pointer (some ⟨b1, 0, none⟩), .pointer (some ⟨b2, 0, none⟩), .pointer (some ⟨b3, 0, none⟩)] w fun e w' => e = .returned (.bool (fullB n l r d)) ∧ Below w.heap.size w w' := by
  obtain ⟨A, c, rfl, -⟩ := h.form
  have hlen := clos_len l n
  rw [hlen] at h1
  have HSP := Lib.hid (fun (nq : Nat) => spreadIn_any n r d (.slice A (clos l n).length c) l (w.drewN nq) (h.below (below_drewN (Below.refl _ _) nq)) hg hn hd)
  rw [hlen] at HSP
  have hp1 : 1 ≤ 2 ^ n := Nat.one_le_two_pow
  have hw1 : IntKind.u64.wrap (IntKind.u64.wrap ((2 : Int) ^ n) - 1) = ((2 ^ n - 1 : Nat) : Int) := by
    have hpn := pow_le hn
    rw [wrap_pow hn, IntKind.wrap_u64]
    generalize 2 ^ n = z at *
    omega
  unfold fullB
  clear h hg hlen
  generalize spN n l r d = y1 at *
  go_enter Try.func76, Try.ntmps76
  go_wp2_with fail
  go_quiet (first | (go_at_call 77; refine quiet_left ((HSP.out _).mono fun _ _ h_ => h_.2)))
  go_wp2_with fail
  go_ret
  exact ⟨ret_bool (beq_cast _ _), below_drewN (Below.refl _ _) _⟩
set_option maxHeartbeats 2000000 in
set_option maxRecDepth 100000 in
theorem implLsp_any (s r : Int) (v : Value) (l : List Ed) (w : World) (h : Edges w v l) (hl : l.length ≤ 1048576) :
    Calls Try.prog 25 #[.agg #[.int .i64 s, v], .int .i64 r] w (RetI w (NumOk s l r) (ndN (lspN s.toNat l r.toNat))) := by
  obtain ⟨A, c, rfl, -⟩ := h.form
  have hmf : ∀ (fn : Fn) (first cap : Array Value) (w : World), (Instr.makeFunc fn first cap).run Try.prog w = .ok (.func fn first cap) w := fun _ _ _ _ => rfl
  have H := Lib.hid h
  have b0 : Below w.heap.size w ((w.alloc (.cells #[.int .i64 s, .slice A l.length c] 28)).alloc (.cells #[.int .i64 r] 3)) := ((Below.refl _ _).alloc (Nat.le_refl _) _).alloc (by simp) _
  have g0 := (Blk.new w 28 #[.int .i64 s, .slice A l.length c]).alloc (.cells #[.int .i64 r] 3)
  have r0 := Blk.new (w.alloc (.cells #[.int .i64 s, .slice A l.length c] 28)) 3 #[.int .i64 r]
  rw [World.size_alloc] at r0
  obtain ⟨p0, p1, -, -⟩ := g0.two
  have p2 := r0.cell 0
  have HN := Lib.hid (hasNumber_any s r _ l _ (h.below b0) hl)
  have HB0 := Lib.hid b0
  have HG0 := Lib.hid g0
  have HR0 := Lib.hid r0
  clear h b0 g0 r0
  by_cases hnk : NumOk s l r
  · rw [okG_yes hnk] at HN
    have HOK := Lib.hid hnk
    have h0 := hnk.1.1
    have h8 := hnk.1.2.1
    obtain ⟨n, rfl⟩ : ∃ n : Nat, s = (n : Int) := ⟨s.toNat, by omega⟩
    have hn : n ≤ 8 := by omega
    obtain ⟨rr, rfl⟩ : ∃ rr : Nat, r = (rr : Int) := ⟨r.toNat, by have := hnk.2.1; omega⟩
    rw [Int.toNat_natCast, Int.toNat_natCast]
    clear hnk
    go_enter Try.func25, Try.ntmps25
    go_wp2_with fail
    refine HN.out.mono ?_
    rintro e w1 ⟨rfl, b1⟩
    have HE1 := Lib.hid (btrans HB0.out b1)
    have HG1 := Lib.hid (HG0.out.below b1 HG0.out.lt)
    have HR1 := Lib.hid (HR0.out.below b1 HR0.out.lt)
    clear p0 p1 p2 b1 HN HB0 HG0 HR0
    obtain ⟨p0, p1, -, -⟩ := HG1.out.two
    have p2 := HR1.out.cell 0
    have HCB := Lib.hid (closedBits_any n (.slice A l.length c) l w1 (H.out.below HE1.out) hl HOK.out.1 hn)
    go_wp2_with fail
    refine HCB.out.mono ?_
    rintro e w2 ⟨A3, c3, rfl, i3, b3⟩
    have d3 : Below w1.heap.size w1 (w2.alloc (.cells #[.slice A3 (clos l n).length c3] 63)) := b3.alloc b3.size _
    have HE3 := Lib.hid (btrans HE1.out d3)
    have HG3 := Lib.hid (HG1.out.below d3 HG1.out.lt)
    have HR3 := Lib.hid (HR1.out.below d3 HR1.out.lt)
    have HK3 := Lib.hid (Blk.new w2 63 #[.slice A3 (clos l n).length c3])
    have HI3 : Hid (Nums (w2.alloc (.cells #[.slice A3 (clos l n).length c3] 63)) (.slice A3 (clos l n).length c3) (clos l n)) := i3.below ((Below.refl _ _).alloc (Nat.le_refl _) _)
    obtain ⟨k0, k1, -, -⟩ := HG3.out.two
    have k2 := HR3.out.cell 0
    have HFS := Lib.hid (firstSet_any n 76 #[.pointer (some ⟨w2.heap.size, 0, none⟩), .pointer (some ⟨w.heap.size + 1, 0, none⟩), .pointer (some ⟨w.heap.size, 0, none⟩)] (fullB n l rr) (w2.alloc (.cells #[.slice A3 (clos l n).length c3] 63)) hn
      { enter := fun _ _ => by kernel_rfl
        call := fun W hW x hx => lspClo_any n rr x w2.heap.size (w.heap.size + 1) w.heap.size _ (.slice A l.length c) l W ((HK3.out.below hW HK3.out.lt).cell 0) ((HR3.out.below hW HR3.out.lt).cell 0) ((HG3.out.below hW HG3.out.lt).cell 0) (HI3.out.below hW) HOK.out.1 hn ((mem_all hn).1 hx) } (full_all n l rr))
    have HV : Hid (lspN n l rr = bestC (fullB n l rr) rkMin n) := rfl
    clear p0 p1 p2 b3 i3 d3 HCB
    go_wp2_with fail
    refine HFS.out.mono ?_
    rintro e w6 ⟨hyn, rfl, b6⟩
    have HE6 := Lib.hid (btrans HE3.out b6)
    have hy64 : bestC (fullB n l rr) rkMin n < 18446744073709551616 := Nat.lt_of_lt_of_le hyn (Nat.le_trans (pow_le hn) (by decide))
    clear b6 k0 k1 k2 hyn
    generalize bestC (fullB n l rr) rkMin n = y at *
    have HND := Lib.hid (nodes_any y w6 hy64)
    go_wp2_with fail
    refine HND.out.mono ?_
    rintro e w7 ⟨A8, c8, rfl, o8, b8⟩
    go_wp2_with fail
    go_ret2
    rw [HV.out]
    exact RetI.yes HOK.out (own_base o8 HE6.out.size) (btrans HE6.out b8)
  · rw [okG_no hnk] at HN
    have HNO := Lib.hid hnk
    clear hnk
    go_enter Try.func25, Try.ntmps25
    go_wp2_with fail
    refine HN.out.mono ?_
    rintro e w1 ⟨rfl, b1⟩
    have HE1 := Lib.hid (btrans HB0.out b1)
    clear p0 p1 p2 b1
    go_wp2_with fail
    go_ret2
    exact RetI.nil HNO.out HE1.out
end Go.Proofs.Ytjcnngnahijceaa.ups
