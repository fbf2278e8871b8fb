/- The best set for which a test holds, and slices.IndexFunc over sets as bits. -/
import Derived.Handy
import Derived.Test.YthgahkkjdpljjaaDoorUpsI
import Derived.Test.YthgahkkjdpljjaaDoorFunc
namespace Go.Proofs.YthgahkkjdpljjaaDoor.ups
open Go.RowKit P2 words edges ints good adjs fns sets rets covs bitsI func
set_option linter.unusedVariables false

/-- the best one of all sets for which a test holds -/
noncomputable def bestC (P : Nat → Bool) (R : Nat → Nat) (n : Nat) : Nat := Classical.epsilon fun b => MaxC P R n (2 ^ n) b
theorem maxC_same {P : Nat → Bool} {R : Nat → Nat} {n b d : Nat} (hn : n ≤ 8) (hR : ∀ {a b}, a < 256 → b < 256 → R a = R b → a = b) (hb : MaxC P R n (2 ^ n) b) (hd : MaxC P R n (2 ^ n) d) : b = d := by
  have hp := pow_le hn
  have h1 := hb.2.2 d hd.1 hd.2.1
  have h2 := hd.2.2 b hb.1 hb.2.1
  exact hR (by have := hb.1; omega) (by have := hd.1; omega) (by omega)
theorem bestC_is {P : Nat → Bool} {R : Nat → Nat} {n b : Nat} (hn : n ≤ 8) (hR : ∀ {a b}, a < 256 → b < 256 → R a = R b → a = b) (hb : MaxC P R n (2 ^ n) b) : bestC P R n = b :=
  maxC_same hn hR (Classical.epsilon_spec (p := fun b => MaxC P R n (2 ^ n) b) ⟨b, hb⟩) hb
theorem ones_topN {n c : Nat} (hn : n ≤ 8) (hc : c < 2 ^ n) : onesN c ≤ n := by
  have := nd_len c
  rw [← nd_bits hn hc] at this
  rw [← this]; exact nw_len _ _
theorem mem_all {n c : Nat} (hn : n ≤ 8) : c ∈ setsN n n ↔ c < 2 ^ n := by
  rw [mem_sets hn hn]
  exact ⟨fun h => h.1, fun h => ⟨h, ones_topN hn h⟩⟩
theorem max_C {P : Nat → Bool} {n b : Nat} (hn : n ≤ 8) (h : MaxTo P (setsN n n) (setsN n n).length b) : MaxC P rkMax n (2 ^ n) b := by
  refine ⟨?_, h.2.1, fun c hc hpc => h.2.2 c (by rw [List.take_length]; exact (mem_all hn).2 hc) hpc⟩
  rcases h.1 with e | m
  · subst e; exact Nat.pow_pos (by decide)
  · exact (mem_all hn).1 (List.mem_of_mem_take m)
theorem min_C {P : Nat → Bool} {n i b : Nat} (hn : n ≤ 8) (hi : (setsN n n)[i]? = some b) (hp : P b = true) (hf : ∀ j c, j < i → (setsN n n)[j]? = some c → P c = false) : MaxC P rkMin n (2 ^ n) b := by
  refine ⟨(mem_all hn).1 (List.mem_of_getElem? hi), hp, fun c hc hpc => ?_⟩
  obtain ⟨j, hj⟩ := List.getElem?_of_mem ((mem_all hn).2 hc)
  by_cases e : j < i
  · have := hf j c e hj
    rw [hpc] at this; cases this
  · by_cases e2 : i = j
    · subst e2; rw [hi] at hj; cases hj; exact Nat.le_refl _
    · exact Nat.le_of_lt (sets_down hn hn (show i < j by omega) hi hj)
theorem idxF_some {α : Type} {p : α → Bool} {xs : List α} {x : α} (hx : x ∈ xs) (hp : p x = true) : ∃ i y, idxF p xs = ((i : Nat) : Int) ∧ xs[i]? = some y ∧ p y = true ∧ ∀ j z, j < i → xs[j]? = some z → p z = false := by
  cases h : xs.findIdx? p with
  | none => have := List.findIdx?_eq_none_iff.1 h x hx; rw [hp] at this; cases this
  | some i =>
    obtain ⟨h1, h2, h3⟩ := List.findIdx?_eq_some_iff_getElem.1 h
    refine ⟨i, xs[i], by unfold idxF; rw [h], List.getElem?_eq_getElem h1, h2, fun j z hj hz => ?_⟩
    obtain ⟨h4, h5⟩ := List.getElem?_eq_some_iff.1 hz
    have := h3 j hj
    rw [h5] at this
    simpa using this

/-- a function value that answers for the elements of a list of words, in every world that goes on from w -/
structure FnU (w : World) (f : FuncId) (caps : Array Value) (xs : List Nat) (p : Nat → Bool) : Prop where
  enter : ∀ (args : Array Value) (W : World), (callFunc f args).run Tryd.prog W = .ok (.enter f args) W
  call : ∀ W, Below w.heap.size w W → ∀ x ∈ xs, Calls Tryd.prog f (#[.int .u64 (x : Int)] ++ caps) W fun e W' => e = .returned (.bool (p x)) ∧ Below W.heap.size W W'
set_option maxHeartbeats 1000000 in
theorem indexFuncU_any (u : Value) (xs : List Nat) (f : FuncId) (caps : Array Value) (p : Nat → Bool) (w : World) (hu : Nums w u xs) (hxl : xs.length ≤ 1048576) (h : FnU w f caps xs p) :
    Calls Tryd.prog 51 #[u, .func (.func f) #[] caps] w fun e w' => e = .returned (.int .i64 (idxF p xs)) ∧ Below w.heap.size w w' := by
  obtain ⟨A2, c2, rfl, hc⟩ := hu.form
  have HC := Lib.hid hc
  have hent := h.enter
  have HF := Lib.hid h.call
  clear hu hc h
  go_enter Tryd.func51, Tryd.ntmps51
  go_wp2_with fail
  go_loopg [8] xs.length (fun g i wr => ∃ k : Nat, k + g = xs.length ∧ i = .int .i64 (k : Int) ∧ Hid (∀ j y, j < k → xs[j]? = some y → p y = false) ∧ Below w.heap.size w wr)
  case atStart => exact ⟨0, by omega, rfl, fun j e h => by omega, Below.refl _ _⟩
  case round =>
    obtain ⟨k, hkg, rfl, hno, hB⟩ := hrel
    cases gk with
    | zero =>
      obtain rfl : k = xs.length := by omega
      have HN := Lib.hid (idxF_none hno.out)
      go_wp2_with fail
      go_ret
      exact ⟨ret_int (by rw [HN.out]), hB⟩
    | succ g2 =>
      have hlt : k < xs.length := by omega
      have hlt' : (k : Int) < (xs.length : Int) := by omega
      obtain ⟨y, hy⟩ : ∃ y, xs[k]? = some y := ⟨_, List.getElem?_eq_getElem hlt⟩
      obtain ⟨g, o, rfl, c0⟩ := HC.out k y hy
      have q0 := nearv.cell_keep c0 hB
      have HP := Lib.hid (HF.out wr hB y (List.mem_of_getElem? hy))
      clear c0
      cases hp : p y with
      | true =>
        have HN := Lib.hid (idxF_at hno.out hy hp)
        rw [hp] at HP
        clear hy hp
        go_wp2_with fail
        refine HP.out.mono ?_
        rintro e w1 ⟨rfl, b1⟩
        go_wp2_with fail
        go_ret
        exact ⟨ret_int (by rw [HN.out]), btrans hB b1⟩
      | false =>
        have HK := Lib.hid (no_succ hno.out hy hp)
        rw [hp] at HP
        clear hy hp
        go_wp2_with fail
        refine HP.out.mono ?_
        rintro e w1 ⟨rfl, b1⟩
        have hB1 := btrans hB b1
        clear hB b1 q0
        go_wp2_with fail
        go_roundg g2
        case measure => omega
        case rel => exact ⟨k + 1, by omega, by go_num, HK, hB1⟩
end Go.Proofs.YthgahkkjdpljjaaDoor.ups
