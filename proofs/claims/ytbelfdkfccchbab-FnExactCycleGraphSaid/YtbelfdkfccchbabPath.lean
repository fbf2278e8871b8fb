/- The contracts of PathGraph and CompleteGraph: of the program and of the model. -/
import Derived.Test.YtbelfdkfccchbabGw
import Derived.Test.YtbelfdkfccchbabGood
import Derived.Test.YtbelfdkfccchbabRet
import Derived.Test.YtbelfdkfccchbabMid
namespace Go.Proofs.Ytbelfdkfccchbab.paths
open Go.RowKit P2 words edges ints good fns gws rets mids

/-- the edges of a path -/
def pathJ (x y : Nat) : Bool := decide (y = x + 1)
theorem pathClo_fn (w : World) (n : Nat) (hn : n ≤ 8) : Fn2 w 67 #[] n pathJ where
  enter := fun _ _ => by kernel_rfl
  call := fun W _ x y hxy hy => by
    have hr : ((y : Int) == (x : Int) + 1) = pathJ x y := by
      unfold pathJ
      rw [Bool.eq_iff_iff, beq_iff_eq, decide_eq_true_iff]; omega
    rw [← hr]
    show Calls Try.prog 67 #[.int .i64 (x : Int), .int .i64 (y : Int)] W _
    clear hr
    go_enter Try.func67, Try.ntmps67
    go_wp2_with fail
    go_ret
    exact ⟨rfl, Below.refl _ _⟩
def allJ (_x _y : Nat) : Bool := true
theorem allClo_fn (w : World) (n : Nat) : Fn2 w 70 #[] n allJ where
  enter := fun _ _ => by kernel_rfl
  call := fun W _ x y hxy hy => by
    show Calls Try.prog 70 #[.int .i64 (x : Int), .int .i64 (y : Int)] W _
    go_enter Try.func70, Try.ntmps70
    go_wp2_with fail
    go_ret
    exact ⟨rfl, Below.refl _ _⟩

def In8 (n : Int) : Prop := 0 ≤ n ∧ n ≤ 8
def pathL (n : Int) : List Ed := gw n.toNat pathJ
def compL (n : Int) : List Ed := gw n.toNat allJ

set_option maxHeartbeats 1000000 in
theorem implPath_any (n : Int) (w : World) :
    Calls Try.prog 29 #[.int .i64 n] w (RetG w (In8 n) n (pathL n)) := by
  by_cases hn : In8 n
  · obtain ⟨k, rfl⟩ : ∃ k : Nat, n = (k : Int) := ⟨n.toNat, by have := hn.1; omega⟩
    have hk : k ≤ 8 := by have := hn.2; omega
    have d0 : decide ((k : Int) < 0) = false := by simp
    have d1 : decide ((8 : Int) < (k : Int)) = false := by simp; omega
    have HP := Lib.hid hn
    have HF := Lib.hid (fun (W : World) => graphWhere_any k 67 #[] pathJ W hk (pathClo_fn W k hk))
    clear hn
    go_enter Try.func29, Try.ntmps29
    go_wp2_with fail
    refine (HF.out _).mono ?_
    rintro e w1 ⟨A1, c1, rfl, o1, b1⟩
    have B1 : Blk w1 w.heap.size 26 #[.int .i64 0, .slice none 0 0] := (Blk.new w 26 #[.int .i64 0, .slice none 0 0]).below b1 (by simp)
    have D := Mid.done (n := (k : Int)) (own_base o1 (by simp)) B1 (btrans ((Below.refl w.heap.size w).alloc (Nat.le_refl _) _) b1) (Nat.le_refl _)
    have HD := Lib.hid D
    obtain ⟨p0, p1, z0, z1⟩ := B1.two
    clear B1 HF D o1 b1
    go_wp2_with fail
    refine bodyPost_ret (v := .tuple #[.agg #[.int .i64 (k : Int), .slice A1 (gw k pathJ).length c1], .bool true]) (by simp [results, Try.results29, go_sem, p0, p1]) rfl (RetG.yes HP.out HD.out.1 HD.out.2)
  · have HP := Lib.hid hn
    by_cases h0 : n < 0
    · have d0 : decide (n < 0) = true := by simpa using h0
      clear hn
      go_enter Try.func29, Try.ntmps29
      go_wp2_with fail
      refine bodyPost_ret (v := .tuple #[.agg #[.int .i64 0, .slice none 0 0], .bool false]) (by simp [results, Try.results29, go_sem]) rfl (RetG.no HP.out ((Below.refl _ _).alloc (Nat.le_refl _) _))
    · have d0 : decide (n < 0) = false := by simpa using h0
      have d1 : decide ((8 : Int) < n) = true := by unfold In8 at hn; simp; omega
      clear hn
      go_enter Try.func29, Try.ntmps29
      go_wp2_with fail
      refine bodyPost_ret (v := .tuple #[.agg #[.int .i64 0, .slice none 0 0], .bool false]) (by simp [results, Try.results29, go_sem]) rfl (RetG.no HP.out ((Below.refl _ _).alloc (Nat.le_refl _) _))

set_option maxHeartbeats 1000000 in
theorem implComplete_any (n : Int) (w : World) :
    Calls Try.prog 33 #[.int .i64 n] w (RetG w (In8 n) n (compL n)) := by
  by_cases hn : In8 n
  · obtain ⟨k, rfl⟩ : ∃ k : Nat, n = (k : Int) := ⟨n.toNat, by have := hn.1; omega⟩
    have hk : k ≤ 8 := by have := hn.2; omega
    have d0 : decide ((k : Int) < 0) = false := by simp
    have d1 : decide ((8 : Int) < (k : Int)) = false := by simp; omega
    have HP := Lib.hid hn
    have HF := Lib.hid (fun (W : World) => graphWhere_any k 70 #[] allJ W hk (allClo_fn W k))
    clear hn
    go_enter Try.func33, Try.ntmps33
    go_wp2_with fail
    refine (HF.out _).mono ?_
    rintro e w1 ⟨A1, c1, rfl, o1, b1⟩
    have B1 : Blk w1 w.heap.size 26 #[.int .i64 0, .slice none 0 0] := (Blk.new w 26 #[.int .i64 0, .slice none 0 0]).below b1 (by simp)
    have D := Mid.done (n := (k : Int)) (own_base o1 (by simp)) B1 (btrans ((Below.refl w.heap.size w).alloc (Nat.le_refl _) _) b1) (Nat.le_refl _)
    have HD := Lib.hid D
    obtain ⟨p0, p1, z0, z1⟩ := B1.two
    clear B1 HF D o1 b1
    go_wp2_with fail
    refine bodyPost_ret (v := .tuple #[.agg #[.int .i64 (k : Int), .slice A1 (gw k allJ).length c1], .bool true]) (by simp [results, Try.results33, go_sem, p0, p1]) rfl (RetG.yes HP.out HD.out.1 HD.out.2)
  · have HP := Lib.hid hn
    by_cases h0 : n < 0
    · have d0 : decide (n < 0) = true := by simpa using h0
      clear hn
      go_enter Try.func33, Try.ntmps33
      go_wp2_with fail
      refine bodyPost_ret (v := .tuple #[.agg #[.int .i64 0, .slice none 0 0], .bool false]) (by simp [results, Try.results33, go_sem]) rfl (RetG.no HP.out ((Below.refl _ _).alloc (Nat.le_refl _) _))
    · have d0 : decide (n < 0) = false := by simpa using h0
      have d1 : decide ((8 : Int) < n) = true := by unfold In8 at hn; simp; omega
      clear hn
      go_enter Try.func33, Try.ntmps33
      go_wp2_with fail
      refine bodyPost_ret (v := .tuple #[.agg #[.int .i64 0, .slice none 0 0], .bool false]) (by simp [results, Try.results33, go_sem]) rfl (RetG.no HP.out ((Below.refl _ _).alloc (Nat.le_refl _) _))
end Go.Proofs.Ytbelfdkfccchbab.paths
