/- Joined sets and sets that touch: the contracts of the program's isJoined and allTouch, and of slices.Contains over sets. -/
import Derived.Handy
import Derived.Test.YthgahkkjdpljjaaDoorJoiM
import Derived.Test.YthgahkkjdpljjaaDoorLeast
import Derived.Test.YthgahkkjdpljjaaDoorCfuU
import Derived.Deep.DeepCutAuto
import Derived.Deep.RegionHeld3
import Derived.Deep.QuietTactic
namespace Go.Proofs.YthgahkkjdpljjaaDoor.joins
open Go.RowKit P2 words edges ints good adjs fns sets rets covs bags bitsI ups func least
set_option linter.unusedVariables false

set_option maxHeartbeats 2000000 in
set_option maxRecDepth 100000 in
theorem isJoined_any (n c : Nat) (v : Value) (l : List Ed) (w : World) (h : Nums w v (clos l n)) (hg : P2.Good (n : Int) l) (hn : n ≤ 8) (hc : c < 2 ^ n) (hE : Env w) :
    Calls Tryd.prog 32 #[v, .int .u64 (c : Int)] w fun e w' => e = .returned (.bool (jnB n l c)) ∧ w = w' := by
  by_cases h0 : c = 0
  · subst h0
    have HV : Hid (jnB n l 0 = false) := jnB_zero n l
    clear h hg
    go_enter Tryd.func32, Tryd.ntmps32
    go_wp2_with fail
    go_ret
    rw [HV.out]
    exact ⟨rfl, rfl⟩
  · have hlt : c < 256 := Nat.lt_of_lt_of_le hc (pow_le hn)
    obtain ⟨hx, hb⟩ := low_bit hn hc h0
    have HL := Lib.hid (least_any c hlt h0 w hE)
    have HC := Lib.hid (connectedIn_any n (bitB c) (fun y => decide (y = Lib.ctz 64 c)) v l w h hg hn (fun z _ hz => by rw [of_decide_eq_true hz]; exact hb))
    rw [nbits hc] at HC
    have HV := Lib.hid (jnB_num (l := l) hn hc h0)
    have hpw : IntKind.u64.wrap ((2 : Int) ^ (Lib.ctz 64 c)) = ((numOf (fun y => decide (y = Lib.ctz 64 c)) n : Nat) : Int) := by rw [num_one hx]; exact wrap_pow (by omega)
    have hq0 : ((c : Int) != 0) = true := by rw [bne_iff_ne]; omega
    have hx9 : ((Lib.ctz 64 c : Nat) : Int) < 64 := by omega
    clear h hg hb
    generalize Lib.ctz 64 c = x at *
    generalize numOf (fun y => decide (y = x)) n = d at *
    generalize numOf (connB n (J2 l) (bitB c) (fun y => decide (y = x))) n = f at *
    generalize jnB n l c = r at *
    go_enter Tryd.func32, Tryd.ntmps32
    go_wp2_with fail
    refine HL.out.mono ?_
    rintro e w' ⟨rfl, rfl⟩
    go_wp2_with fail
    refine HC.out.mono ?_
    rintro e w' ⟨rfl, rfl⟩
    go_wp2_with fail
    go_ret
    exact ⟨ret_bool (by rw [← HV.out, Bool.eq_iff_iff, beq_iff_eq, beq_iff_eq]; omega), rfl⟩
set_option maxHeartbeats 2000000 in
set_option maxRecDepth 100000 in
theorem touchClo_any (b c b1 : Nat) (w : World) (h : w.cell? ⟨b1, 0, none⟩ = some (.int .u64 (c : Int))) (hb : b < 256) (hc : c < 256) :
    Calls Tryd.prog 47 #[.int .u64 (b : Int), .pointer (some ⟨b1, 0, none⟩)] w fun e w' => e = .returned (.bool (c &&& b == 0)) ∧ Below w.heap.size w w' := by
  have hyc : bits .and .u64 (c : Int) (b : Int) = ((c &&& b : Nat) : Int) := bits_and_u64_nat _ _ (by omega) (by omega)
  have hq : (((c &&& b : Nat) : Int) == 0) = (c &&& b == 0) := by rw [Bool.eq_iff_iff, beq_iff_eq, beq_iff_eq]; omega
  generalize c &&& b = y at *
  generalize (y == 0) = r at *
  have HB := Lib.hid (Below.refl w.heap.size w)
  go_enter Tryd.func47, Tryd.ntmps47
  go_wp2_with fail
  go_ret
  exact ⟨rfl, HB.out⟩
theorem nums_take {w : World} {A : Option Addr} {c i : Nat} {xs : List Nat} (h : Nums w (.slice A xs.length c) xs) (hi : i ≤ xs.length) (hc : i ≤ c) : Nums w (.slice A i c) (xs.take i) := by
  have h1 := apps.Reads.take (c' := c) h hi hc
  show Reads w 1 (.slice A i c) (xs.take i).length (cellsU (xs.take i))
  rw [List.length_take, Nat.min_eq_left hi]
  unfold cellsU at h1 ⊢
  rw [Nat.mul_one] at h1
  rw [List.map_take]
  exact h1
theorem nums_cap {w : World} {A : Option Addr} {c n : Nat} {xs : List Nat} (h : Nums w (.slice A n c) xs) (h0 : 0 < xs.length) : xs.length ≤ c := by
  obtain ⟨A', c', e, hh⟩ := h
  cases e
  obtain ⟨g, o, -, h1, -⟩ := hh h0
  exact h1
set_option maxHeartbeats 4000000 in
set_option maxRecDepth 100000 in
theorem allTouch_any (n : Nat) (v u : Value) (l : List Ed) (cs : List Nat) (w : World) (h : Nums w v (clos l n)) (hg : P2.Good (n : Int) l) (hn : n ≤ 8) (hu : Nums w u cs) (hcl : cs.length ≤ 1048576) (hc8 : ∀ c ∈ cs, c < 256) :
    Calls Tryd.prog 33 #[v, u] w fun e w' => e = .returned (.bool (tchB l n cs)) ∧ Below w.heap.size w w' := by
  have hmf : ∀ (fn : Fn) (first cap : Array Value) (w : World), (Instr.makeFunc fn first cap).run Tryd.prog w = .ok (.func fn first cap) w := fun _ _ _ _ => rfl
  obtain ⟨A, c, rfl, -⟩ := h.form
  obtain ⟨A2, c2, rfl, hcc⟩ := hu.form
  have HU := Lib.hid hu
  have HCC := Lib.hid hcc
  have H := Lib.hid h
  have HGD := Lib.hid hg
  clear h hu hcc hg
  go_enter Tryd.func33, Tryd.ntmps33
  go_wp2_with fail
  go_loopg [10] cs.length (fun g i wr => ∃ k : Nat, k + g = cs.length ∧ i = .int .i64 (k : Int) ∧ Hid (tchK l n cs k = true) ∧ Below w.heap.size w wr)
  case atStart => exact ⟨0, by omega, rfl, tchK_zero l n cs, Below.refl _ _⟩
  case round =>
    obtain ⟨k, hkg, rfl, hT, hB⟩ := hrel
    cases gk with
    | zero =>
      obtain rfl : k = cs.length := by omega
      have HV : Hid (tchB l n cs = true) := hT.out
      go_wp2_with fail
      go_ret
      exact ⟨ret_bool HV.out.symm, hB⟩
    | succ g2 =>
      have hlt : k < cs.length := by omega
      have hlt' : (k : Int) < (cs.length : Int) := by omega
      obtain ⟨a, ha⟩ : ∃ a, cs[k]? = some a := ⟨_, List.getElem?_eq_getElem hlt⟩
      obtain ⟨ga, oa, rfl, c0⟩ := HCC.out k _ ha
      have q0 := nearv.cell_keep c0 hB
      have ha8 := hc8 a (List.mem_of_getElem? ha)
      have HCA := Lib.hid (closedAround_any n a (.slice A (clos l n).length c) l wr (H.out.below hB) HGD.out hn ha8)
      have hcap := nums_cap HU.out (by omega)
      have ha9 : arN l n a < 256 := numOf_lt _ hn
      have HS := Lib.hid (tchK_succ (l := l) (n := n) ha)
      rw [hT.out, Bool.true_and] at HS
      have HME := Lib.hid (meet_any l n a cs k)
      have HB := Lib.hid hB
      have HNO := Lib.hid (fun h9 : tchK l n cs (k + 1) = false => tchK_no h9 cs.length (by omega))
      generalize arN l n a = d at *
      have b0 : Below wr.heap.size wr (wr.alloc (.cells #[.int .u64 (d : Int)] 57)) := (Below.refl _ _).alloc (Nat.le_refl _) _
      have g0 := Blk.new wr 57 #[.int .u64 (d : Int)]
      have HCF := Lib.hid (containsUU_any (.slice (some ⟨ga, oa, none⟩) k c2) (cs.take k) 47 #[.pointer (some ⟨wr.heap.size, 0, none⟩)] (fun b => d &&& b == 0) _ ((nums_take HU.out (by omega) (by omega)).below (btrans hB b0)) (by rw [List.length_take]; omega)
        { enter := fun _ _ => by kernel_rfl
          call := fun W hW b hb => touchClo_any b d wr.heap.size W ((g0.below hW g0.lt).cell 0) (hc8 b (List.mem_of_mem_take hb)) ha9 })
      have HB0 := Lib.hid b0
      rw [HME.out] at HCF
      clear b0 g0
      cases hall : (cs.take k).all fun b => meetB l n a b with
      | true =>
        rw [hall] at HCF HS
        clear hall
        go_wp2_with fail
        refine HCA.out.mono ?_
        rintro e w' ⟨rfl, rfl⟩
        go_wp2_with fail
        refine HCF.out.mono ?_
        rintro e w1 ⟨rfl, b1⟩
        have HE1 := Lib.hid (btrans HB.out (btrans HB0.out b1))
        clear b1
        go_wp2_with fail
        go_roundg g2
        case measure => omega
        case rel => exact ⟨k + 1, by omega, by go_num, HS, HE1.out⟩
      | false =>
        rw [hall] at HCF HS
        clear hall
        have HV : Hid (tchB l n cs = false) := HNO.out HS.out
        go_wp2_with fail
        refine HCA.out.mono ?_
        rintro e w' ⟨rfl, rfl⟩
        go_wp2_with fail
        refine HCF.out.mono ?_
        rintro e w1 ⟨rfl, b1⟩
        have HE1 := Lib.hid (btrans HB.out (btrans HB0.out b1))
        clear b1
        go_wp2_with fail
        go_ret
        exact ⟨ret_bool HV.out.symm, HE1.out⟩
set_option maxHeartbeats 1000000 in
theorem indexU_any (u : Value) (xs : List Nat) (x : Nat) (w : World) (hu : Nums w u xs) (hxl : xs.length ≤ 1048576) :
    Calls Tryd.prog 42 #[u, .int .u64 (x : Int)] w fun e w' => (∃ i : Int, e = .returned (.int .i64 i) ∧ -1 ≤ i ∧ decide (0 ≤ i) = decide (x ∈ xs)) ∧ w = w' := by
  obtain ⟨A2, c2, rfl, hc⟩ := hu.form
  have HC := Lib.hid hc
  clear hu hc
  go_enter Tryd.func42, Tryd.ntmps42
  go_wp2_with fail
  go_loop [8] (fun i => ∃ k : Nat, k ≤ xs.length ∧ i = .int .i64 (k : Int) ∧ Hid (∀ j y, j < k → xs[j]? = some y → y ≠ x)) (fun i => xs.length - (intOf i).toNat)
  case atStart => exact ⟨0, Nat.zero_le _, rfl, fun j e h => by omega⟩
  case round =>
    obtain ⟨k, hk, rfl, hno⟩ := hrel
    by_cases hlt : k < xs.length
    · obtain ⟨y, hy⟩ : ∃ y, xs[k]? = some y := ⟨_, List.getElem?_eq_getElem hlt⟩
      obtain ⟨g, o, rfl, c0⟩ := HC.out k y hy
      have hlt' : (k : Int) < (xs.length : Int) := by omega
      by_cases hyx : y = x
      · have HN : Hid (x ∈ xs) := by show _ ∈ _; rw [← hyx]; exact List.mem_of_getElem? hy
        have d0 : ((x : Int) == (y : Int)) = true := by simp [hyx]
        clear hy hyx
        go_wp2_with fail
        go_ret
        exact ⟨⟨(k : Int), rfl, by omega, ⟨fun _ => HN.out, fun _ => by omega⟩⟩, rfl⟩
      · have HK : Hid (∀ j y, j < k + 1 → xs[j]? = some y → y ≠ x) := fun j z hj hz => by
          by_cases e : j = k
          · subst e; rw [hy] at hz; cases hz; exact hyx
          · exact hno.out j z (by omega) hz
        have d0 : ((x : Int) == (y : Int)) = false := by simp; omega
        clear hy hyx
        go_wp2_with fail
        go_round
        case rel => exact ⟨k + 1, by omega, by go_num, HK⟩
        case measure => simp [intOf]; omega
    · have HN : Hid (¬ x ∈ xs) := fun hx => by
        obtain ⟨j, hj⟩ := List.getElem?_of_mem hx
        exact hno.out j x (by have := (List.getElem?_eq_some_iff.1 hj).1; omega) hj rfl
      go_wp2_with fail
      go_ret
      exact ⟨⟨-1, rfl, by omega, ⟨fun h => by omega, fun h => absurd h HN.out⟩⟩, rfl⟩
theorem containsU_any (u : Value) (xs : List Nat) (x : Nat) (w : World) (hu : Nums w u xs) (hxl : xs.length ≤ 1048576) :
    Calls Tryd.prog 31 #[u, .int .u64 (x : Int)] w fun e w' => e = .returned (.bool (decide (x ∈ xs))) ∧ w = w' := by
  have HI := Lib.hid (indexU_any u xs x w hu hxl)
  obtain ⟨A2, c2, rfl, -⟩ := hu.form
  clear hu
  go_enter Tryd.func31, Tryd.ntmps31
  go_wp2_with fail
  refine HI.out.mono ?_
  rintro e w1 ⟨⟨i, rfl, hi, hd⟩, rfl⟩
  have HD := Lib.hid hd
  clear hd
  go_wp2_with fail
  go_ret
  exact ⟨ret_bool HD.out, rfl⟩
end Go.Proofs.YthgahkkjdpljjaaDoor.joins
