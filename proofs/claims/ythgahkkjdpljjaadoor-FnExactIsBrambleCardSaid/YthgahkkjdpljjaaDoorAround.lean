/- The contracts of the program's closedAround, connectedIn and bagOf. -/
import Derived.Handy
import Derived.Test.YthgahkkjdpljjaaDoorBagM
import Derived.Test.YthgahkkjdpljjaaDoorBitsI
import Derived.Laws.BitsAllLaws
import Derived.StillTailTactics
namespace Go.Proofs.YthgahkkjdpljjaaDoor.bitsI
open Go.RowKit P2 words edges ints good adjs fns sets rets covs bags
set_option linter.unusedVariables false

theorem andNot_num (a : Nat) (p : Nat → Bool) (n : Nat) (ha : a < 18446744073709551616) (hn : n ≤ 8) (q : Nat → Bool) (hq : ∀ z, z < 64 → (a.testBit z && !(decide (z < n) && p z)) = (decide (z < n) && q z)) :
    bits .andNot .u64 (a : Int) (numOf p n : Int) = (numOf q n : Int) := by
  have hb := numOf_lt p hn
  rw [u64_andNot_nat a _ ha (by omega)]
  congr 1
  apply Nat.eq_of_testBit_eq
  intro i
  rw [Nat.testBit_and, show (18446744073709551615 - numOf p n) = 2 ^ 64 - (numOf p n + 1) from by omega, Nat.testBit_two_pow_sub_succ (by omega), numOf_bit, numOf_bit]
  by_cases hi : i < 64
  · rw [← hq i hi]; simp [hi]
  · have h1 : decide (i < 64) = false := decide_eq_false hi
    have h2 : decide (i < n) = false := decide_eq_false (by omega)
    rw [h1, h2]; simp
theorem num_one {n x : Nat} (hx : x < n) : numOf (fun y => decide (y = x)) n = 2 ^ x := by
  apply Nat.eq_of_testBit_eq
  intro i
  rw [numOf_bit, Nat.testBit_two_pow]
  by_cases e : i = x
  · subst e; simp [hx]
  · have h9 : ¬ x = i := fun h => e h.symm
    simp [e, h9]
theorem num_or_one (p : Nat → Bool) {n x : Nat} (hx : x < n) : numOf p n ||| 2 ^ x = numOf (reach.pput p x) n := by
  apply Nat.eq_of_testBit_eq
  intro i
  rw [Nat.testBit_or, numOf_bit, numOf_bit, Nat.testBit_two_pow]
  unfold reach.pput
  by_cases e : i = x
  · subst e; simp [hx]
  · have h9 : ¬ x = i := fun h => e h.symm
    simp [e, h9]
set_option maxHeartbeats 1000000 in
set_option maxRecDepth 100000 in
theorem closedAround_any (n c : Nat) (v : Value) (l : List Ed) (w : World) (h : Nums w v (clos l n)) (hg : P2.Good (n : Int) l) (hn : n ≤ 8) (hc : c < 256) :
    Calls Tryd.prog 45 #[v, .int .u64 (c : Int)] w fun e w' => e = .returned (.int .u64 (arN l n c : Int)) ∧ w = w' := by
  obtain ⟨A, cc, rfl, hcl⟩ := h.form
  have HC := Lib.hid hcl
  have HG := Lib.hid hg
  have hlen := clos_len l n
  rw [hlen]
  clear h hcl hg hlen
  go_enter Tryd.func45, Tryd.ntmps45
  go_wp2_with fail
  go_loop [5, 10] (fun s i => ∃ k : Nat, k ≤ n ∧ i = .int .i64 (k : Int) ∧ s = .int .u64 (arK l c k : Int)) (fun _ i => n - (intOf i).toNat)
  case atStart => exact ⟨0, Nat.zero_le _, rfl, rfl⟩
  case round =>
    obtain ⟨k, hk, rfl, rfl⟩ := hrel
    by_cases hlt : k < n
    · have hlt' : (k : Int) < (n : Int) := by omega
      obtain ⟨g, o, rfl, c0⟩ := HC.out k _ (clos_at hlt)
      have HH := Lib.hid (fun (W : World) => has_any c k W (by omega) (by omega))
      cases hb : c.testBit k with
      | true =>
        have HN := Lib.hid (arK_yes (l := l) hb)
        have HT : Hid (bits .or .u64 (arK l c k : Int) (cloB l k : Int) = ((arK l c k ||| cloB l k : Nat) : Int)) :=
          bits_or_u64_nat _ _ (by have := arK_lt HG.out c (k := k) (by omega); omega) (by have := cloB_lt' HG.out k (by omega); omega)
        rw [hb] at HH
        clear hb
        go_wp2_with fail
        refine (HH.out _).mono ?_
        rintro e w' ⟨rfl, rfl⟩
        go_wp2_with fail
        go_round
        case rel => exact ⟨k + 1, by omega, by go_num, by rw [HN.out, HT.out]⟩
        case measure => simp [intOf]; omega
      | false =>
        have HN := Lib.hid (arK_no (l := l) hb)
        rw [hb] at HH
        clear hb
        go_wp2_with fail
        refine (HH.out _).mono ?_
        rintro e w' ⟨rfl, rfl⟩
        go_wp2_with fail
        go_round
        case rel => exact ⟨k + 1, by omega, by go_num, by rw [HN.out]⟩
        case measure => simp [intOf]; omega
    · obtain rfl : k = n := by omega
      have HE := Lib.hid (arK_all HG.out c)
      go_wp2_with fail
      go_ret
      exact ⟨ret_int (by rw [HE.out]), rfl⟩
set_option maxHeartbeats 1000000 in
set_option maxRecDepth 100000 in
theorem connectedIn_any (n : Nat) (q P : Nat → Bool) (v : Value) (l : List Ed) (w : World) (h : Nums w v (clos l n)) (hg : P2.Good (n : Int) l) (hn : n ≤ 8) (hP : ∀ z, z < n → P z = true → q z = true) :
    Calls Tryd.prog 43 #[v, .int .u64 (numOf q n : Int), .int .u64 (numOf P n : Int)] w fun e w' => e = .returned (.int .u64 (numOf (connB n (J2 l) q P) n : Int)) ∧ w = w' := by
  have HA := Lib.hid (fun p => closedAround_any n (numOf p n) v l w h hg hn (numOf_lt p hn))
  have H0 : Hid (Conn n l q P P) := Conn.first hP
  have hq := numOf_lt q hn
  clear h hg hP
  go_enter Tryd.func43, Tryd.ntmps43
  go_wp2_with fail
  go_loopg [2] n (fun g s wr => ∃ p, s = .int .u64 (numOf p n : Int) ∧ Hid (Conn n l q P p) ∧ n ≤ (nw p n).length + g ∧ wr = w)
  case atStart => exact ⟨P, rfl, H0, by omega, rfl⟩
  case round =>
    clear H0
    obtain ⟨p, rfl, hcn, hmeas, rfl⟩ := hrel
    have hand : bits .and .u64 ((arN l n (numOf p n) : Nat) : Int) ((numOf q n : Nat) : Int) = ((numOf (mored l n q p) n : Nat) : Int) := by
      have h1 : arN l n (numOf p n) < 256 := numOf_lt _ hn
      rw [bits_and_u64_nat _ _ (by omega) (by omega)]
      unfold arN
      rw [num_and]; rfl
    have HAP := Lib.hid (HA.out p)
    by_cases he : numOf (mored l n q p) n = numOf p n
    · have HE := Lib.hid (hcn.out.done he)
      have d0 : (numOf (mored l n q p) n == numOf p n) = true := by simpa using he
      have d1 : (((numOf (mored l n q p) n : Nat) : Int) == ((numOf p n : Nat) : Int)) = true := by rw [he]; simp
      have HEE := Lib.hid he
      clear he hcn
      generalize arN l n (numOf p n) = a at *
      generalize numOf (mored l n q p) n = m at *
      go_wp2_with fail
      refine HAP.out.mono ?_
      rintro e w' ⟨rfl, rfl⟩
      go_wp2_with fail
      go_ret
      exact ⟨ret_int (by rw [HEE.out, HE.out]), rfl⟩
    · have hgr := hcn.out.grow he
      have HN := Lib.hid hcn.out.next
      have hle := nw_len (mored l n q p) n
      obtain ⟨g2, rfl⟩ : ∃ g2, gk = g2 + 1 := ⟨gk - 1, by omega⟩
      have HM : Hid (n ≤ (nw (mored l n q p) n).length + g2) := by show _ ≤ _; omega
      have d0 : (numOf (mored l n q p) n == numOf p n) = false := by simpa using he
      have d1 : (((numOf (mored l n q p) n : Nat) : Int) == ((numOf p n : Nat) : Int)) = false := by
        have : ¬ ((numOf (mored l n q p) n : Nat) : Int) = ((numOf p n : Nat) : Int) := by omega
        simpa using this
      clear he hcn hgr hle hmeas
      generalize arN l n (numOf p n) = a at *
      generalize hmm : numOf (mored l n q p) n = m at *
      have HMM := Lib.hid hmm
      clear hmm
      go_wp2_with fail
      refine HAP.out.mono ?_
      rintro e w' ⟨rfl, rfl⟩
      go_wp2_with fail
      go_roundg g2
      case measure => omega
      case rel => exact ⟨mored l n q p, by rw [HMM.out], HN, HM.out, rfl⟩
end Go.Proofs.YthgahkkjdpljjaaDoor.bitsI
