/- Bounds of bandwidths: mathematics, and the contracts of the program. -/
import Derived.Handy
import Derived.Test.YtphlpipbhaiijaaRadI
import Derived.Test.YtphlpipbhaiijaaBallS
import Derived.Test.YtphlpipbhaiijaaElim
import Derived.Deep.DeepCutAuto
import Derived.Deep.QuietTactic
namespace Go.Proofs.Ytphlpipbhaiijaa.bnds
open Go.RowKit P2 words edges ints owns good near adjs fns rets sets covs reach grid dists distf disto rens func rad bags
set_option linter.unusedVariables false

/-- the nodes other than x up to a distance -/
noncomputable def othB (n : Nat) (l : List Ed) (x : Nat) (r : Int) (y : Nat) : Bool := decide (1 ≤ fn (dist n (J1 l) x) y) && decide (fn (dist n (J1 l) x) y ≤ r)
noncomputable def othN (n : Nat) (l : List Ed) (x : Nat) (r : Int) : Nat := (nw (othB n l x r) n).length
theorem oth_ball {n : Nat} {l : List Ed} {x : Nat} {r : Int} (hx : x < n) (hr : 1 ≤ r) : (nw (fun y => inB (fn (dist n (J1 l) x) y) 0 r) n).length = othN n l x r + 1 := by
  have hs := (dist_spec (J1 l) hx).2
  have e : ∀ y, y < n → inB (fn (dist n (J1 l) x) y) 0 r = pput (othB n l x r) x y := fun y hy => by
    unfold inB pput othB
    rw [Bool.eq_iff_iff, Bool.or_eq_true, Bool.and_eq_true, decide_eq_true_iff, decide_eq_true_iff, decide_eq_true_iff, decide_eq_true_iff]
    constructor
    · rintro ⟨h1, h2⟩
      by_cases e : fn (dist n (J1 l) x) y = 0
      · exact .inr (hs.only y hy e)
      · exact .inl ⟨by omega, h2⟩
    · rintro (⟨h1, h2⟩ | rfl)
      · exact ⟨by omega, h2⟩
      · rw [hs.at0]; exact ⟨by omega, by omega⟩
  rw [reach.nw_congr e]
  have h := pput_len (p := othB n l x r) (y := x) (by
    unfold othB
    rw [hs.at0]; rfl) n
  rw [if_pos hx] at h
  exact h
/-- what one ball tells -/
noncomputable def bndT (n : Nat) (l : List Ed) (x r : Nat) : Int := ((othN n l x (r : Int) : Int) + 2 * (r : Int) - 1) / (2 * (r : Int))
/-- the greatest of them so far: r radii of one node, from b on -/
noncomputable def bndR (n : Nat) (l : List Ed) (x : Nat) (b : Int) : Nat → Int
  | 0 => b
  | r + 1 => max (bndR n l x b r) (bndT n l x (r + 1))
noncomputable def bndX (n : Nat) (l : List Ed) : Nat → Int
  | 0 => 0
  | x + 1 => bndR n l x (bndX n l x) n
noncomputable def bndV (s : Int) (l : List Ed) : Int := bndX s.toNat l s.toNat
theorem bndR_succ {n : Nat} {l : List Ed} {x r : Nat} {b : Int} : bndR n l x b (r + 1) = max (bndR n l x b r) (((othN n l x ((r : Int) + 1) : Int) + 2 * ((r : Int) + 1) - 1) / (2 * ((r : Int) + 1))) := by
  rw [bndR]
  unfold bndT
  rw [show (((r + 1 : Nat)) : Int) = (r : Int) + 1 from by omega]
theorem othN_le (n : Nat) (l : List Ed) (x : Nat) (r : Int) : othN n l x r ≤ n := nw_len _ _
theorem bndClo_any (y : Nat) (r : Int) (bd br : Nat) (v : Value) (D : List Int) (w : World) (h1 : w.cell? ⟨bd, 0, none⟩ = some v) (hv : Ints w v D) (h2 : w.cell? ⟨br, 0, none⟩ = some (.int .i64 r)) (hy : y < D.length) :
    Calls Try.prog 75 #[.int .i64 (y : Int), .pointer (some ⟨bd, 0, none⟩), .pointer (some ⟨br, 0, none⟩)] w fun e w' => e = .returned (.bool (decide (1 ≤ fn D y) && decide (fn D y ≤ r))) ∧ Below w.heap.size w w' := by
  obtain ⟨A, c, rfl, hc⟩ := hv.form
  obtain ⟨d, hd⟩ : ∃ d, D[y]? = some d := ⟨_, List.getElem?_eq_getElem hy⟩
  obtain ⟨g, o, rfl, t0⟩ := hc y d hd
  rw [fn_at hd]
  have hy' : (y : Int) < (D.length : Int) := by omega
  have hy0 : (0 : Int) ≤ (y : Int) := by omega
  have HB : Hid (Below w.heap.size w w) := Below.refl _ _
  clear hc hd hv
  cases e0 : decide (1 ≤ d) with
  | true =>
    cases e1 : decide (d ≤ r) with
    | true =>
      go_enter Try.func75, Try.ntmps75
      go_wp2_with fail
      go_quiet (fail)
      go_wp2_with fail
      go_ret
      exact ⟨rfl, below_drewN HB.out _⟩
    | false =>
      go_enter Try.func75, Try.ntmps75
      go_wp2_with fail
      go_quiet (fail)
      go_wp2_with fail
      go_ret
      exact ⟨rfl, below_drewN HB.out _⟩
  | false =>
    go_enter Try.func75, Try.ntmps75
    go_wp2_with fail
    go_quiet (fail)
    go_wp2_with fail
    go_ret
    exact ⟨rfl, below_drewN HB.out _⟩
set_option maxHeartbeats 4000000 in
set_option maxRecDepth 100000 in
theorem implBound_any (s : Int) (v : Value) (l : List Ed) (w : World) (h : Edges w v l) (hl : l.length ≤ 1048576) :
    Calls Try.prog 36 #[.agg #[.int .i64 s, v]] w (RetN w (P2.Good s l) (bndV s l)) := by
  obtain ⟨A, c, rfl, -⟩ := h.form
  have b0 : Below w.heap.size w (w.alloc (.cells #[.int .i64 s, .slice A l.length c] 29)) := (Below.refl _ _).alloc (Nat.le_refl _) _
  have g0 := Blk.new w 29 #[.int .i64 s, .slice A l.length c]
  have HD := Lib.hid (implDistO_any s _ l _ (h.below b0) hl)
  have hmf : ∀ (fn : Fn) (first cap : Array Value) (w : World), (Instr.makeFunc fn first cap).run Try.prog w = .ok (.func fn first cap) w := fun _ _ _ _ => rfl
  clear h
  by_cases hgd : P2.Good s l
  · have h0 := hgd.1
    have h8 := hgd.2.1
    obtain ⟨n, rfl⟩ : ∃ n : Nat, s = (n : Int) := ⟨s.toNat, by omega⟩
    have hn : n ≤ 8 := by omega
    rw [Int.toNat_natCast] at HD
    unfold RetGr at HD
    rw [gdG_yes hgd, okG_yes hgd] at HD
    have HGD := Lib.hid hgd
    have hLEN := distG_len n l
    rw [hLEN] at HD
    have HV : Hid (bndV (n : Int) l = bndX n l n) := by show _ = _; unfold bndV; rw [Int.toNat_natCast]
    clear hgd
    go_enter Try.func36, Try.ntmps36
    go_wp2_with fail
    refine HD.out.mono ?_
    rintro e w1 ⟨A1, c1, us, rfl, o1, b1⟩
    have HE1 := Lib.hid (btrans b0 b1)
    have HG1 := Lib.hid (g0.below b1 g0.lt)
    have o2 : OwnG w1 (w.alloc (.cells #[.int .i64 (n : Int), .slice A l.length c] 29)).heap.size (.slice A1 (distG n l).length c1) us (distG n l) := by rw [hLEN]; exact o1
    have HO := Lib.hid o2
    clear HD b0 b1 g0 o1 o2 hLEN
    go_wp2_with fail
    go_loopg [6, 18] n (fun g mv iv wr => ∃ x : Nat, x + g = n ∧ iv = .int .i64 (x : Int) ∧ mv = .int .i64 (bndX n l x) ∧ Below w1.heap.size w1 wr)
    case atStart => exact ⟨0, by omega, rfl, rfl, Below.refl _ _⟩
    case round =>
      obtain ⟨x, hxg, rfl, rfl, hB⟩ := hrel
      have HB := Lib.hid hB
      cases gk with
      | zero =>
        obtain rfl : x = n := by omega
        clear hB
        go_wp2_with fail
        go_ret2
        rw [← HV.out]
        exact RetN.yes HGD.out (btrans HE1.out HB.out)
      | succ g2 =>
        have hlt : x < n := by omega
        have hlt' : (x : Int) < (n : Int) := by omega
        obtain ⟨gr, A5, c5, rfl, f5, hI⟩ := row_of HO.out hlt
        have q5 := nearv.cell_keep f5 hB
        have HI := Lib.hid (hI.below hB)
        have hdl := dist_len (J1 l) hlt
        have HDL := Lib.hid hdl
        have HGX := Lib.hid (HG1.out.below hB HG1.out.lt)
        have hszw := HGX.out.lt
        have g8 := Blk.new wr 25 #[.slice A5 n c5]
        have g9 := Blk.new (wr.alloc (.cells #[.slice A5 n c5] 25)) 3 #[.int .i64 1]
        rw [World.size_alloc] at g9
        have HB0 := Lib.hid (((Below.refl wr.heap.size wr).alloc (Nat.le_refl _) (.cells #[.slice A5 n c5] 25)).alloc (by simp) (.cells #[.int .i64 1] 3))
        have HG8 := Lib.hid (g8.alloc (.cells #[.int .i64 1] 3))
        have HG9 := Lib.hid g9
        clear f5 hI hB hdl g8 g9
        go_wp2_with fail
        obtain ⟨wo, hwo⟩ : ∃ wo, wo = wr := ⟨_, rfl⟩
        subst hwo
        clear q5
        go_loopg [6, 9] n (fun g mv pv wr => ∃ r p : Nat, r + g = n ∧ pv = .pointer (some ⟨p, 0, none⟩) ∧ mv = .int .i64 (bndR n l x (bndX n l x) r) ∧ wo.heap.size < p ∧ Blk wr p 3 #[.int .i64 ((r : Int) + 1)] ∧ Blk wr wo.heap.size 25 #[.slice A5 n c5] ∧ Below wo.heap.size wo wr)
        case atStart => exact ⟨0, wo.heap.size + 1, by omega, rfl, rfl, by omega, HG9.out, HG8.out, HB0.out⟩
        case round =>
          clear HG9 HG8 HB0
          obtain ⟨r, p, hrg, rfl, rfl, hpo, hgp, hg8, hBx⟩ := hrel
          have hgb := HGX.out.below hBx HGX.out.lt
          obtain ⟨p0, p1, -, -⟩ := hgb.two
          have c9 := hgp.cell 0
          have c8 := hg8.cell 0
          have HGP := Lib.hid hgp
          have HG8 := Lib.hid hg8
          have HBX := Lib.hid hBx
          cases gk with
          | zero =>
            obtain rfl : r = n := by omega
            have hno : ¬ ((r : Int) + 1 ≤ (r : Int)) := by omega
            clear hgp hg8 hBx hgb
            go_wp2_with fail
            go_roundg g2
            case measure => omega
            case rel => exact ⟨x + 1, by omega, by go_num, rfl, HB.out.trans (HBX.out.mono HB.out.size)⟩
          | succ g4 =>
            have hr1 : (r : Int) + 1 ≤ (n : Int) := by omega
            obtain ⟨r1, hr1e⟩ : ∃ r1 : Nat, r1 = r + 1 := ⟨_, rfl⟩
            have HFN : Fn1 wr 75 #[.pointer (some ⟨wo.heap.size, 0, none⟩), .pointer (some ⟨p, 0, none⟩)] n (othB n l x ((r : Int) + 1)) :=
              { enter := fun _ _ => by kernel_rfl
                call := fun W hW y hy => bndClo_any y ((r : Int) + 1) wo.heap.size p (.slice A5 n c5) (dist n (J1 l) x) W ((hg8.below hW hg8.lt).cell 0) ((HI.out.below hBx).below hW) ((hgp.below hW hgp.lt).cell 0) (by rw [HDL.out]; exact hy) }
            have HNW := Lib.hid (nodesWhere_any n _ _ (othB n l x ((r : Int) + 1)) wr hn HFN)
            have hol := othN_le n l x ((r : Int) + 1)
            have HBS := Lib.hid (bndR_succ (n := n) (l := l) (x := x) (r := r) (b := bndX n l x))
            have HON : Hid ((nw (othB n l x ((r : Int) + 1)) n).length = othN n l x ((r : Int) + 1)) := rfl
            clear hgp hg8 hBx hgb HFN
            go_wp2_with fail
            refine HNW.out.mono ?_
            rintro e w5 ⟨A7, c7, rfl, o7, b7⟩
            rw [HON.out]
            have HGP5 := Lib.hid (HGP.out.below b7 HGP.out.lt)
            have HG85 := Lib.hid (HG8.out.below b7 HG8.out.lt)
            have HB5 := Lib.hid (btrans HBX.out b7)
            clear c9 c8 o7 b7
            have c9 := HGP5.out.cell 0
            generalize othN n l x ((r : Int) + 1) = a at *
            have hw1 : IntKind.i64.wrap (2 * ((r : Int) + 1)) = 2 * ((r : Int) + 1) := IntWalk.i64_in _ (by omega)
            have hw2 : IntKind.i64.wrap ((a : Int) + 2 * ((r : Int) + 1)) = (a : Int) + 2 * ((r : Int) + 1) := IntWalk.i64_in _ (by omega)
            have hw3 : IntKind.i64.wrap ((a : Int) + 2 * ((r : Int) + 1) - 1) = (a : Int) + 2 * ((r : Int) + 1) - 1 := IntWalk.i64_in _ (by omega)
            have hw4 : ((2 * ((r : Int) + 1)) == 0) = false := by simp; omega
            generalize bndR n l x (bndX n l x) r = bv at *
            go_wp2_with fail
            all_goals
              go_roundg g4
              case measure => omega
              case rel =>
                refine ⟨r + 1, w5.heap.size, by omega, rfl, ?_, by have := HGP5.out.lt; omega, ?_, HG85.out.alloc _, HB5.out.alloc HB5.out.size _⟩
                · rw [HBS.out]; first | rfl | (congr 1; omega)
                · rw [show (((r + 1 : Nat) : Int) + 1) = (r : Int) + 1 + 1 from by omega]; exact Blk.new _ _ _
  · unfold RetGr at HD
    rw [gdG_no hgd, okG_no hgd] at HD
    have HN := Lib.hid hgd
    clear hgd
    go_enter Try.func36, Try.ntmps36
    go_wp2_with fail
    refine HD.out.mono ?_
    rintro e w1 ⟨A1, c1, us, rfl, o1, b1⟩
    have HE1 := Lib.hid (btrans b0 b1)
    clear o1 b1 b0 g0
    go_wp2_with fail
    go_loopg [6, 18] 0 (fun g mv iv wr => iv = .int .i64 0 ∧ mv = .int .i64 0 ∧ wr = w1)
    case atStart => exact ⟨rfl, rfl, rfl⟩
    case round =>
      obtain ⟨rfl, rfl, rfl⟩ := hrel
      go_wp2_with fail
      go_ret2
      exact RetN.no HN.out HE1.out
end Go.Proofs.Ytphlpipbhaiijaa.bnds
