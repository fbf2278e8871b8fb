/- The contracts of the program's function values in CartesianProduct and StrongProduct. -/
import Derived.Test.YtbdappkhkngdlaaProd
namespace Go.Proofs.Ytbdappkhkngdlaa.prods
open Go.RowKit P2 words edges ints good near adjs fns gws rets mids nearv
set_option linter.unusedVariables false

set_option maxHeartbeats 2000000 in
theorem cartClo_fn (bh bg : Nat) (s t : Int) (l m : List Ed) (w : World) (hg : P2.Good s l) (hh : P2.Good t m) (h1 : NearV w bg l) (h2 : NearV w bh m) :
    Fn4 w 83 #[.pointer (some ⟨bh, 0, none⟩), .pointer (some ⟨bg, 0, none⟩)] (cartJ l m) where
  enter := fun _ _ => by kernel_rfl
  call := fun W hb a b c d ha hb' hc hd => by
    obtain ⟨c1, q1, n1⟩ := h1.below hb
    obtain ⟨c2, q2, n2⟩ := h2.below hb
    have HN1 := Lib.hid (near_adj a c s c1 l W hg n1 (in64_small (by omega) (by omega)) (in64_small (by omega) (by omega)))
    have HN2 := Lib.hid (near_adj b d t c2 m W hh n2 (in64_small (by omega) (by omega)) (in64_small (by omega) (by omega)))
    show Calls Try.prog 83 #[.int .i64 (a : Int), .int .i64 (b : Int), .int .i64 (c : Int), .int .i64 (d : Int), .pointer (some ⟨bh, 0, none⟩), .pointer (some ⟨bg, 0, none⟩)] W _
    clear n1 n2 hg hh h1 h2
    cases e1 : (a == c) <;> cases e4 : (b == d) <;> cases e2 : adj m b d <;> cases e3 : adj l a c
    all_goals
      have E := Lib.hid (⟨e1, e4, e2, e3⟩ : (a == c) = _ ∧ (b == d) = _ ∧ adj m b d = _ ∧ adj l a c = _)
      rw [e2] at HN2
      rw [e3] at HN1
      have f1 := (beq_cast a c).trans e1
      have f4 := (beq_cast b d).trans e4
      clear e2 e3
      go_enter Try.func83, Try.ntmps83
      go_wp2_with fail
      repeat ((first | (with_reducible refine HN1.out.mono ?_) | (with_reducible refine HN2.out.mono ?_)); rintro e w' ⟨rfl, rfl⟩; go_wp2_with fail)
      go_ret
      exact ⟨ret_bool (by obtain ⟨x1, x2, x3, x4⟩ := E.out; unfold cartJ; rw [x1, x2, x3, x4]; rfl), rfl⟩
set_option maxHeartbeats 2000000 in
theorem strClo_fn (bh bg : Nat) (s t : Int) (l m : List Ed) (w : World) (hg : P2.Good s l) (hh : P2.Good t m) (h1 : NearV w bg l) (h2 : NearV w bh m) :
    Fn4 w 85 #[.pointer (some ⟨bg, 0, none⟩), .pointer (some ⟨bh, 0, none⟩)] (strJ l m) where
  enter := fun _ _ => by kernel_rfl
  call := fun W hb a b c d ha hb' hc hd => by
    obtain ⟨c1, q1, n1⟩ := h1.below hb
    obtain ⟨c2, q2, n2⟩ := h2.below hb
    have HN1 := Lib.hid (near_adj a c s c1 l W hg n1 (in64_small (by omega) (by omega)) (in64_small (by omega) (by omega)))
    have HN2 := Lib.hid (near_adj b d t c2 m W hh n2 (in64_small (by omega) (by omega)) (in64_small (by omega) (by omega)))
    show Calls Try.prog 85 #[.int .i64 (a : Int), .int .i64 (b : Int), .int .i64 (c : Int), .int .i64 (d : Int), .pointer (some ⟨bg, 0, none⟩), .pointer (some ⟨bh, 0, none⟩)] W _
    clear n1 n2 hg hh h1 h2
    cases e1 : (a == c) <;> cases e4 : (b == d) <;> cases e2 : adj m b d <;> cases e3 : adj l a c
    all_goals
      have E := Lib.hid (⟨e1, e4, e2, e3⟩ : (a == c) = _ ∧ (b == d) = _ ∧ adj m b d = _ ∧ adj l a c = _)
      rw [e2] at HN2
      rw [e3] at HN1
      have f1 := (beq_cast a c).trans e1
      have f4 := (beq_cast b d).trans e4
      clear e2 e3
      go_enter Try.func85, Try.ntmps85
      go_wp2_with fail
      repeat ((first | (with_reducible refine HN1.out.mono ?_) | (with_reducible refine HN2.out.mono ?_)); rintro e w' ⟨rfl, rfl⟩; go_wp2_with fail)
      go_ret
      exact ⟨ret_bool (by obtain ⟨x1, x2, x3, x4⟩ := E.out; unfold strJ; rw [x1, x2, x3, x4]; rfl), rfl⟩

end Go.Proofs.Ytbdappkhkngdlaa.prods
