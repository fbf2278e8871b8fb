/- The contract of the program's cheapestOrder. -/
import Derived.Handy
import Derived.Test.YtphlpipbhaiijaaOrdI
import Derived.Deep.DeepCutAuto
namespace Go.Proofs.Ytphlpipbhaiijaa.costs
open Go.RowKit P2 words edges ints good adjs fns sets rets covs reach bags bitsI fronts
set_option linter.unusedVariables false

def fitC (cost : Nat → Nat → Int) (C : Nat → Int) (g x : Nat) : Bool := decide (max (cost g x) (C (g ||| 2 ^ x)) ≤ C 0)
set_option maxHeartbeats 2000000 in
set_option maxRecDepth 100000 in
theorem cheapestOrder_any (n b : Nat) (nil : Int) (cost : Nat → Nat → Int) (fid : FuncId) (w : World) (hn : n ≤ 8) (hnil : nil ≤ 100) (hcost : ∀ g x, cost g x ≤ 100)
    (hent : ∀ (args : Array Value) (W : World), (callFunc fid args).run Try.prog W = .ok (.enter fid args) W)
    (HC : ∀ (W : World) (g x : Nat), Below w.heap.size w W → g < 2 ^ n → x < n → g.testBit x = false → Calls Try.prog fid #[.int .u64 (g : Int), .int .i64 (x : Int), .pointer (some ⟨b, 0, none⟩)] W fun e w' => e = .returned (.int .i64 (cost g x)) ∧ ∃ m, w' = W.drewN m) :
    Calls Try.prog 77 #[.int .i64 (n : Int), .int .i64 nil, .func (.func fid) #[] #[.pointer (some ⟨b, 0, none⟩)]] w fun e w' => ∃ C, LcUp n cost nil 0 C ∧ ∃ A c, e = .returned (.tuple #[.slice A (ordL n (fitC cost C)).length c, .bool (ordN n (fitC cost C) n).isSome]) ∧ w'.ownsRow w.heap.size 3 1 (.slice A (ordL n (fitC cost C)).length c) (ordL n (fitC cost C)).length (cellsI (ordL n (fitC cost C))) ∧ Below w.heap.size w w' := by
  have b0 : Below w.heap.size w (w.alloc (.cells #[.func (.func fid) #[] #[.pointer (some ⟨b, 0, none⟩)]] 78)) := (Below.refl _ _).alloc (Nat.le_refl _) _
  have g0 := Blk.new w 78 #[.func (.func fid) #[] #[.pointer (some ⟨b, 0, none⟩)]]
  have HLC := Lib.hid (leastCosts_any n b nil cost fid (w.alloc (.cells #[.func (.func fid) #[] #[.pointer (some ⟨b, 0, none⟩)]] 78)) hn hnil hcost hent (fun W g x hW hg hx hb => HC W g x (btrans b0 hW) hg hx hb))
  have HCC := Lib.hid HC
  have HENT := Lib.hid hent
  have HB0 := Lib.hid b0
  have HG0 := Lib.hid g0
  have hmf : ∀ (fn : Fn) (first cap : Array Value) (w : World), (Instr.makeFunc fn first cap).run Try.prog w = .ok (.func fn first cap) w := fun _ _ _ _ => rfl
  have p0 := g0.cell 0
  clear HC b0 g0
  go_enter Try.func77, Try.ntmps77
  go_wp2_with fail
  refine HLC.out.mono ?_
  rintro e w2 ⟨A9, c9, C, rfl, o9, hlc, b9⟩
  have HE2 := Lib.hid (btrans HB0.out b9)
  have HG2 := Lib.hid (HG0.out.below b9 HG0.out.lt)
  have b3 : Below w2.heap.size w2 (w2.alloc (.cells #[.slice A9 (2 ^ n) c9] 25)) := (Below.refl _ _).alloc (Nat.le_refl _) _
  have HE3 := Lib.hid (btrans HE2.out b3)
  have HG3 := Lib.hid (HG2.out.below b3 HG2.out.lt)
  have HR3 := Lib.hid (Blk.new w2 25 #[.slice A9 (2 ^ n) c9])
  have HRD := Lib.hid (Reads.of_own (own_below o9 b3))
  have HL := Lib.hid hlc
  have HFO := Lib.hid (firstOrder_any n (fitC cost C) 128 #[.pointer (some ⟨w.heap.size, 0, none⟩), .pointer (some ⟨w2.heap.size, 0, none⟩)] (w2.alloc (.cells #[.slice A9 (2 ^ n) c9] 25)) hn (fun _ _ => by kernel_rfl) (fun W g x hW hg hx hb =>
    (fits_any n g x b w.heap.size w2.heap.size cost C fid A9 c9 W hn hg hx ((HG3.out.below hW HG3.out.lt).cell 0) ((HR3.out.below hW HR3.out.lt).cell 0) (HRD.out.below hW) HENT.out
      (fun m => HCC.out (W.drewN m) g x (below_drewN (btrans HE3.out hW) m) hg hx hb)).mono fun _ _ ⟨e, m, h⟩ => ⟨e, h ▸ below_drewN (Below.refl _ _) m⟩))
  clear p0 o9 b9 b3 hlc
  go_wp2_with fail
  refine HFO.out.mono ?_
  rintro e w4 ⟨A4, c4, rfl, o4, b4⟩
  have HO4 := Lib.hid (own_base o4 HE3.out.size)
  have HE4 := Lib.hid (btrans HE3.out b4)
  clear o4 b4
  go_wp2_with fail
  go_ret2
  exact ⟨C, HL.out, A4, c4, rfl, HO4.out, HE4.out⟩
end Go.Proofs.Ytphlpipbhaiijaa.costs
