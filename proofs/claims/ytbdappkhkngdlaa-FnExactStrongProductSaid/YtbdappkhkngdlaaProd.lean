/- The contracts of the program's products: hasProduct, productWhere, their function values. -/
import Derived.Handy
import Derived.Test.YtbdappkhkngdlaaNearV
import Derived.Test.YtbdappkhkngdlaaProdM
import Derived.Deep.DeepCutAuto
import Derived.Deep.RegionHeld3
namespace Go.Proofs.Ytbdappkhkngdlaa.prods
open Go.RowKit P2 words edges ints good near adjs fns gws rets mids nearv
set_option linter.unusedVariables false

/-- a function value that answers for four small numbers, and leaves the world alone -/
structure Fn4 (w : World) (f : FuncId) (caps : Array Value) (J : Nat → Nat → Nat → Nat → Bool) : Prop where
  enter : ∀ (args : Array Value) (W : World), (callFunc f args).run Try.prog W = .ok (.enter f args) W
  call : ∀ W, Below w.heap.size w W → ∀ a b c d : Nat, a < 9 → b < 9 → c < 9 → d < 9 → Calls Try.prog f (#[.int .i64 (a : Int), .int .i64 (b : Int), .int .i64 (c : Int), .int .i64 (d : Int)] ++ caps) W fun e W' => e = .returned (.bool (J a b c d)) ∧ W = W'
theorem Fn4.below {w w' : World} {f : FuncId} {caps : Array Value} {J : Nat → Nat → Nat → Nat → Bool} (h : Fn4 w f caps J) (hb : Below w.heap.size w w') : Fn4 w' f caps J :=
  ⟨h.enter, fun W hW => h.call W (btrans hb hW)⟩
theorem beq_cast (a b : Nat) : ((a : Int) == (b : Int)) = (a == b) := by
  rw [Bool.eq_iff_iff, beq_iff_eq, beq_iff_eq]; omega

/-- the pairs' test out of four numbers' test -/
def pairJ (J : Nat → Nat → Nat → Nat → Bool) (k a b : Nat) : Bool := J (a / k) (a % k) (b / k) (b % k)
set_option maxHeartbeats 2000000 in
theorem pairClo_fn (bj bh n k : Nat) (f : FuncId) (caps : Array Value) (J : Nat → Nat → Nat → Nat → Bool) (u : Value) (w : World) (hk : k ≤ 8) (hnk : n * k ≤ 8) (hf : Fn4 w f caps J)
    (h1 : w.cell? ⟨bj, 0, none⟩ = some (.func (.func f) #[] caps)) (h2 : w.cell? ⟨bh, 0, none⟩ = some (.int .i64 (k : Int))) :
    Fn2 w 105 #[.pointer (some ⟨bj, 0, none⟩), .pointer (some ⟨bh, 0, none⟩)] (n * k) (pairJ J k) where
  enter := fun _ _ => by kernel_rfl
  call := fun W hb a b hab hbn => by
    have q1 := cell_keep h1 hb
    have q2 := cell_keep h2 hb
    have k0 := (pair_lt hbn).2.2
    have HC := Lib.hid (fun nq => hf.call (W.drewN nq) (below_drewN hb nq) (a / k) (a % k) (b / k) (b % k) (by have := Nat.div_le_self a k; omega) (by have := Nat.mod_lt a k0; omega) (by have := Nat.div_le_self b k; omega) (by have := Nat.mod_lt b k0; omega))
    have hent := hf.enter
    have HJ : Hid (J (a / k) (a % k) (b / k) (b % k) = pairJ J k a b) := rfl
    have hk0 : (0 : Int) < (k : Int) := by omega
    have ha8 : (a : Int) ≤ 8 := by omega
    have hb8 : (b : Int) ≤ 8 := by omega
    have hk8 : (k : Int) ≤ 8 := by omega
    have hkz : (k : Int) ≠ 0 := by omega
    have hkz2 : ((k : Int) == 0) = false := by simpa using hkz
    have t1 : Int.tdiv (a : Int) (k : Int) = ((a / k : Nat) : Int) := by simp [Int.tdiv]
    have t2 : Int.tmod (a : Int) (k : Int) = ((a % k : Nat) : Int) := by simp [Int.tmod]
    have t3 : Int.tdiv (b : Int) (k : Int) = ((b / k : Nat) : Int) := by simp [Int.tdiv]
    have t4 : Int.tmod (b : Int) (k : Int) = ((b % k : Nat) : Int) := by simp [Int.tmod]
    have v1 : a / k ≤ 8 := by have := Nat.div_le_self a k; omega
    have v2 : a % k ≤ 8 := by have := Nat.mod_lt a k0; omega
    have v3 : b / k ≤ 8 := by have := Nat.div_le_self b k; omega
    have v4 : b % k ≤ 8 := by have := Nat.mod_lt b k0; omega
    generalize a / k = aq at *
    generalize a % k = ar at *
    generalize b / k = bq at *
    generalize b % k = br at *
    have u1 : IntKind.i64.wrap (aq : Int) = (aq : Int) := IntWalk.i64_in _ (by omega)
    have u2 : IntKind.i64.wrap (ar : Int) = (ar : Int) := IntWalk.i64_in _ (by omega)
    have u3 : IntKind.i64.wrap (bq : Int) = (bq : Int) := IntWalk.i64_in _ (by omega)
    have u4 : IntKind.i64.wrap (br : Int) = (br : Int) := IntWalk.i64_in _ (by omega)
    show Calls Try.prog 105 #[.int .i64 (a : Int), .int .i64 (b : Int), .pointer (some ⟨bj, 0, none⟩), .pointer (some ⟨bh, 0, none⟩)] W _
    rw [← HJ.out]
    clear h1 h2 hf
    go_enter Try.func105, Try.ntmps105
    go_wp2_with fail
    go_quiet ((exact quiet_left (HC.out _)))
    go_wp2_with fail
    go_ret
    exact ⟨rfl, below_drewN (Below.refl _ _) _⟩

set_option maxHeartbeats 1000000 in
set_option maxRecDepth 100000 in
theorem hasProd_any (s t : Int) (v u : Value) (l m : List Ed) (w : World) (h : Edges w v l) (hl : l.length ≤ 1048576) (k : Edges w u m) (hm : m.length ≤ 1048576) :
    Calls Try.prog 81 #[.agg #[.int .i64 s, v], .agg #[.int .i64 t, u]] w fun e w' => e = .returned (.bool (okG (ProdOk s t l m))) ∧ Below w.heap.size w w' := by
  have b0 : Below w.heap.size w ((w.alloc (.cells #[.int .i64 s, v] 29)).alloc (.cells #[.int .i64 t, u] 29)) :=
    ((Below.refl _ _).alloc (Nat.le_refl _) _).alloc (by simp) _
  have g0 := (Blk.new w 29 #[.int .i64 s, v]).alloc (.cells #[.int .i64 t, u] 29)
  have x0 := Blk.new (w.alloc (.cells #[.int .i64 s, v] 29)) 29 #[.int .i64 t, u]
  rw [World.size_alloc] at x0
  obtain ⟨A, c, rfl, -⟩ := h.form
  obtain ⟨A2, c2, rfl, -⟩ := k.form
  have H := Lib.hid h
  have HK := Lib.hid k
  have HG := Lib.hid (implIsGraph_any s _ l _ (h.below b0) hl)
  clear h k
  by_cases hg : P2.Good s l
  · rw [goodB_yes hg] at HG
    obtain ⟨p0, p1, -, -⟩ := g0.two
    by_cases hh : P2.Good t m
    · obtain ⟨n, rfl⟩ : ∃ n : Nat, s = (n : Int) := ⟨s.toNat, by have := hg.1; omega⟩
      obtain ⟨k, rfl⟩ : ∃ k : Nat, t = (k : Int) := ⟨t.toNat, by have := hh.1; omega⟩
      have hn8 : n ≤ 8 := by have := hg.2.1; omega
      have hk8 : k ≤ 8 := by have := hh.2.1; omega
      have hP8 : n * k ≤ 8 * 8 := Nat.mul_le_mul hn8 hk8
      have hE : ((n : Int) * (k : Int)) = ((n * k : Nat) : Int) := by simp
      have HO : Hid (okG (ProdOk (n : Int) (k : Int) l m) = decide (n * k ≤ 8)) := by
        show _ = _
        by_cases hp : n * k ≤ 8
        · rw [okG_yes ⟨hg, hh, by rw [hE]; omega⟩, decide_eq_true hp]
        · rw [okG_no (fun hh => hp (by have := hh.2.2; rw [hE] at this; omega)), decide_eq_false hp]
      rw [HO.out]
      have HH : Hid (goodB (k : Int) m = true) := goodB_yes hh
      clear hg hh HO
      generalize n * k = P at *
      by_cases hp : P ≤ 8
      all_goals
        have hP : (P : Int) ≤ 64 := by omega
        have hP0 : (0 : Int) ≤ (P : Int) := by omega
        have hD : decide (P ≤ 8) = decide ((P : Int) ≤ 8) := by rw [decide_eq_decide]; omega
        rw [hD]
        clear hD
        have hp' : decide ((P : Int) ≤ 8) = decide (P ≤ 8) := by rw [decide_eq_decide]; omega
        simp only [hp, decide_true, decide_false] at hp'
        go_enter Try.func81, Try.ntmps81
        go_wp2_with fail
        refine HG.out.mono ?_
        rintro e w1 ⟨rfl, b1⟩
        have e_w1 := btrans b0 b1
        have g1 := g0.below b1 g0.lt
        have x1 := x0.below b1 x0.lt
        obtain ⟨p0, p1, -, -⟩ := g1.two
        obtain ⟨m0, m1, -, -⟩ := x1.two
        clear b1
        go_wp2_with fail
        refine (implIsGraph_any (k : Int) (.slice A2 m.length c2) m w1 (HK.out.below e_w1) hm).mono ?_
        rw [HH.out]
        rintro e w2 ⟨rfl, b2⟩
        have e_w2 := btrans e_w1 b2
        have g2 := g1.below b2 g1.lt
        have x2 := x1.below b2 x1.lt
        clear p0 p1 m0 m1
        obtain ⟨p0, p1, -, -⟩ := g2.two
        obtain ⟨m0, m1, -, -⟩ := x2.two
        clear b2
        go_wp2_with fail
        go_ret
        first | exact ⟨rfl, e_w2⟩ | exact ⟨ret_bool hp'.symm, e_w2⟩ | exact ⟨ret_bool (by simp_all), e_w2⟩
    · have HO : Hid (okG (ProdOk s t l m) = false) := okG_no (fun h => hh h.2.1)
      have HH : Hid (goodB t m = false) := goodB_no hh
      rw [HO.out]
      clear hg hh HO
      go_enter Try.func81, Try.ntmps81
      go_wp2_with fail
      refine HG.out.mono ?_
      rintro e w1 ⟨rfl, b1⟩
      have e_w1 := btrans b0 b1
      have x1 := x0.below b1 x0.lt
      obtain ⟨m0, m1, -, -⟩ := x1.two
      clear b1
      go_wp2_with fail
      refine (implIsGraph_any t (.slice A2 m.length c2) m w1 (HK.out.below e_w1) hm).mono ?_
      rw [HH.out]
      rintro e w2 ⟨rfl, b2⟩
      go_wp2_with fail
      go_ret
      exact ⟨rfl, btrans e_w1 b2⟩
  · rw [goodB_no hg] at HG
    have HO : Hid (okG (ProdOk s t l m) = false) := okG_no (fun h => hg h.1)
    rw [HO.out]
    clear hg HO
    go_enter Try.func81, Try.ntmps81
    go_wp2_with fail
    refine HG.out.mono ?_
    rintro e w1 ⟨rfl, b1⟩
    go_wp2_with fail
    go_ret
    exact ⟨rfl, btrans b0 b1⟩

set_option maxHeartbeats 1000000 in
set_option maxRecDepth 100000 in
theorem prodWhere_any (n k : Nat) (A A2 : Option Addr) (a a2 c c2 : Nat) (f : FuncId) (caps : Array Value) (J : Nat → Nat → Nat → Nat → Bool) (w : World) (hn8 : n ≤ 8) (hk : k ≤ 8) (hnk : n * k ≤ 8) (hf : Fn4 w f caps J) :
    Calls Try.prog 82 #[.agg #[.int .i64 (n : Int), .slice A a c], .agg #[.int .i64 (k : Int), .slice A2 a2 c2], .func (.func f) #[] caps] w fun e w' => ∃ A c, e = .returned (.agg #[.int .i64 ((n * k : Nat) : Int), .slice A (gw (n * k) (pairJ J k)).length c]) ∧
      w'.ownsRow w.heap.size 80 2 (.slice A (gw (n * k) (pairJ J k)).length c) (gw (n * k) (pairJ J k)).length (cellsE (gw (n * k) (pairJ J k))) ∧ Below w.heap.size w w' := by
  have hmf : ∀ (fn : Fn) (first cap : Array Value) (w : World), (Instr.makeFunc fn first cap).run Try.prog w = .ok (.func fn first cap) w := fun _ _ _ _ => rfl
  have hE : ((n : Int) * (k : Int)) = ((n * k : Nat) : Int) := by simp
  have e_w := Below.refl w.heap.size w
  have r0 := Blk.new (((w.alloc (.cells #[.int .i64 (n : Int), .slice A a c] 29)).alloc (.cells #[.int .i64 (k : Int), .slice A2 a2 c2] 29)).alloc (.cells #[.func (.func f) #[] caps] 91)) 29 #[.int .i64 0, .slice none 0 0]
  have x0 := ((Blk.new (w.alloc (.cells #[.int .i64 (n : Int), .slice A a c] 29)) 29 #[.int .i64 (k : Int), .slice A2 a2 c2]).alloc (.cells #[.func (.func f) #[] caps] 91)).alloc (.cells #[.int .i64 0, .slice none 0 0] 29)
  have j0 := (Blk.new ((w.alloc (.cells #[.int .i64 (n : Int), .slice A a c] 29)).alloc (.cells #[.int .i64 (k : Int), .slice A2 a2 c2] 29)) 91 #[.func (.func f) #[] caps]).alloc (.cells #[.int .i64 0, .slice none 0 0] 29)
  simp only [World.size_alloc] at r0 x0 j0
  have e0 : Below w.heap.size w ((((w.alloc (.cells #[.int .i64 (n : Int), .slice A a c] 29)).alloc (.cells #[.int .i64 (k : Int), .slice A2 a2 c2] 29)).alloc (.cells #[.func (.func f) #[] caps] 91)).alloc (.cells #[.int .i64 0, .slice none 0 0] 29)) := (by have hz_ := (e_w).size; have hb_ := e_w; go_grown)
  have F := Lib.hid (pairClo_fn (w.heap.size + 1 + 1) (w.heap.size + 1) n k f caps J (.slice none 0 0) _ hk hnk (hf.below e0) (j0.cell 0) (x0.cell 0))
  have HR := Lib.hid r0
  clear r0 x0 j0 hf
  generalize hP : n * k = P at *
  have hP0 : (P : Int) ≤ 8 := by omega
  clear hP
  go_enter Try.func82, Try.ntmps82
  go_wp2_with fail
  refine (graphWhere_any P 105 _ _ _ hnk F.out).mono ?_
  rintro e w1 ⟨A3, c3, rfl, o3, b3⟩
  have r1 := HR.out.below b3 HR.out.lt
  have e_w1 := btrans e0 b3
  have HD := Lib.hid (Mid.done (n := (P : Int)) (own_base o3 (by simp; omega)) r1 e_w1 (by omega))
  obtain ⟨q0, q1, z0, z1⟩ := r1.two
  clear o3 b3 r1 e_w1 e0
  go_wp2_with fail
  refine bodyPost_ret (v := .agg #[.int .i64 (P : Int), .slice A3 (gw P (pairJ J k)).length c3]) (by simp [results, Try.results82, go_sem, q0, q1]) rfl ⟨A3, c3, rfl, HD.out.1, HD.out.2⟩
end Go.Proofs.Ytbdappkhkngdlaa.prods
