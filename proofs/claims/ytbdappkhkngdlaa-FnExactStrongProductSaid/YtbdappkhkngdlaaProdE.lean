/- The contracts of the model's CartesianProduct and StrongProduct. -/
import Derived.Test.YtbdappkhkngdlaaProdS
import Derived.Test.YtbdappkhkngdlaaProdT
namespace Go.Proofs.Ytbdappkhkngdlaa.prods
open Go.RowKit P2 words edges ints good near adjs fns gws rets mids nearv
set_option linter.unusedVariables false

theorem prodL_len (both : Bool) (s t : Int) (l m : List Ed) : (edG (ProdOk s t l m) (prodL both s t l m)).length ≤ 1048576 := edG_len fun h => by
  obtain ⟨n, k, rfl, rfl, _, _, hnk⟩ := prod_nat h
  unfold prodL
  rw [show ((n : Int) * (k : Int)).toNat = n * k from by rw [← Int.natCast_mul]; exact Int.toNat_natCast _]
  exact gw_len _ hnk

set_option maxHeartbeats 1000000 in
set_option maxRecDepth 100000 in
theorem specCartesian_any (s t : Int) (v u : Value) (l m : List Ed) (w : World) (h : Edges w v l) (hl : l.length ≤ 1048576) (k : Edges w u m) (hm : m.length ≤ 1048576)
    (hs1 : -9223372036854775808 ≤ s) (hs2 : s ≤ 9223372036854775807) (ht1 : -9223372036854775808 ≤ t) (ht2 : t ≤ 9223372036854775807) :
    Calls Try.prog 43 #[.agg #[.int .i64 s, v], .agg #[.int .i64 t, u]] w (RetG w (ProdOk s t l m) (s * t) (prodL false s t l m)) := by
  have b0 : Below w.heap.size w (((w.alloc (.cells #[.int .i64 s, v] 29)).alloc (.cells #[.int .i64 t, u] 29)).alloc (.cells #[.int .i64 0, .slice none 0 0] 29)) :=
    (((Below.refl _ _).alloc (Nat.le_refl _) _).alloc (by simp) _).alloc (by simp; omega) _
  have r0 := Blk.new ((w.alloc (.cells #[.int .i64 s, v] 29)).alloc (.cells #[.int .i64 t, u] 29)) 29 #[.int .i64 0, .slice none 0 0]
  simp only [World.size_alloc] at r0
  have HP := Lib.hid (l2Product_any false s t v u l m _ (h.below b0) hl (k.below b0) hm hs1 hs2 ht1 ht2)
  obtain ⟨A, c, rfl, -⟩ := h.form
  obtain ⟨A2, c2, rfl, -⟩ := k.form
  clear h k
  by_cases hg : ProdOk s t l m
  · have HGD := Lib.hid hg
    go_enter Try.func43, Try.ntmps43
    go_wp2_with fail
    refine HP.out.mono ?_
    rintro e w1 ⟨A3, c3, rfl, o3, b1⟩
    rw [szG_yes hg, edG_yes hg, okG_yes hg] at *
    have r1 := r0.below b1 r0.lt
    have HD := Lib.hid (Mid.done (n := s * t) (own_base o3 (by simp; omega)) r1 (btrans b0 b1) (by omega))
    obtain ⟨q0, q1, z0, z1⟩ := r1.two
    clear hg o3 b1 r1 r0 b0
    generalize s * t = P at *
    go_wp2_with fail
    refine bodyPost_ret (v := .tuple #[.agg #[.int .i64 (P), .slice A3 (prodL false s t l m).length c3], .bool true]) (by simp [results, Try.results43, go_sem, q0, q1]) rfl (RetG.yes HGD.out HD.out.1 HD.out.2)
  · have HN := Lib.hid hg
    go_enter Try.func43, Try.ntmps43
    go_wp2_with fail
    refine HP.out.mono ?_
    rintro e w1 ⟨A3, c3, rfl, o3, b1⟩
    rw [szG_no hg, edG_no hg, okG_no hg] at *
    have r1 := r0.below b1 r0.lt
    have HD := Lib.hid (Mid.done (n := 0) (l := []) (own_base o3 (by simp; omega)) r1 (btrans b0 b1) (by omega))
    obtain ⟨q0, q1, z0, z1⟩ := r1.two
    clear hg o3 b1 r1 r0 b0
    go_wp2_with fail
    refine bodyPost_ret (v := .tuple #[.agg #[.int .i64 0, .slice A3 0 c3], .bool false]) (by simp [results, Try.results43, go_sem, q0, q1]) rfl ⟨A3, c3, ?_, ?_, HD.out.2⟩
    · rw [szG_no HN.out, edG_no HN.out, okG_no HN.out]; rfl
    · rw [edG_no HN.out]; exact HD.out.1

set_option maxHeartbeats 1000000 in
set_option maxRecDepth 100000 in
theorem specStrong_any (s t : Int) (v u : Value) (l m : List Ed) (w : World) (h : Edges w v l) (hl : l.length ≤ 1048576) (k : Edges w u m) (hm : m.length ≤ 1048576)
    (hs1 : -9223372036854775808 ≤ s) (hs2 : s ≤ 9223372036854775807) (ht1 : -9223372036854775808 ≤ t) (ht2 : t ≤ 9223372036854775807) :
    Calls Try.prog 46 #[.agg #[.int .i64 s, v], .agg #[.int .i64 t, u]] w (RetG w (ProdOk s t l m) (s * t) (prodL true s t l m)) := by
  have b0 : Below w.heap.size w (((w.alloc (.cells #[.int .i64 s, v] 29)).alloc (.cells #[.int .i64 t, u] 29)).alloc (.cells #[.int .i64 0, .slice none 0 0] 29)) :=
    (((Below.refl _ _).alloc (Nat.le_refl _) _).alloc (by simp) _).alloc (by simp; omega) _
  have r0 := Blk.new ((w.alloc (.cells #[.int .i64 s, v] 29)).alloc (.cells #[.int .i64 t, u] 29)) 29 #[.int .i64 0, .slice none 0 0]
  simp only [World.size_alloc] at r0
  have HP := Lib.hid (l2Product_any true s t v u l m _ (h.below b0) hl (k.below b0) hm hs1 hs2 ht1 ht2)
  obtain ⟨A, c, rfl, -⟩ := h.form
  obtain ⟨A2, c2, rfl, -⟩ := k.form
  clear h k
  by_cases hg : ProdOk s t l m
  · have HGD := Lib.hid hg
    go_enter Try.func46, Try.ntmps46
    go_wp2_with fail
    refine HP.out.mono ?_
    rintro e w1 ⟨A3, c3, rfl, o3, b1⟩
    rw [szG_yes hg, edG_yes hg, okG_yes hg] at *
    have r1 := r0.below b1 r0.lt
    have HD := Lib.hid (Mid.done (n := s * t) (own_base o3 (by simp; omega)) r1 (btrans b0 b1) (by omega))
    obtain ⟨q0, q1, z0, z1⟩ := r1.two
    clear hg o3 b1 r1 r0 b0
    generalize s * t = P at *
    go_wp2_with fail
    refine bodyPost_ret (v := .tuple #[.agg #[.int .i64 (P), .slice A3 (prodL true s t l m).length c3], .bool true]) (by simp [results, Try.results46, go_sem, q0, q1]) rfl (RetG.yes HGD.out HD.out.1 HD.out.2)
  · have HN := Lib.hid hg
    go_enter Try.func46, Try.ntmps46
    go_wp2_with fail
    refine HP.out.mono ?_
    rintro e w1 ⟨A3, c3, rfl, o3, b1⟩
    rw [szG_no hg, edG_no hg, okG_no hg] at *
    have r1 := r0.below b1 r0.lt
    have HD := Lib.hid (Mid.done (n := 0) (l := []) (own_base o3 (by simp; omega)) r1 (btrans b0 b1) (by omega))
    obtain ⟨q0, q1, z0, z1⟩ := r1.two
    clear hg o3 b1 r1 r0 b0
    go_wp2_with fail
    refine bodyPost_ret (v := .tuple #[.agg #[.int .i64 0, .slice A3 0 c3], .bool false]) (by simp [results, Try.results46, go_sem, q0, q1]) rfl ⟨A3, c3, ?_, ?_, HD.out.2⟩
    · rw [szG_no HN.out, edG_no HN.out, okG_no HN.out]; rfl
    · rw [edG_no HN.out]; exact HD.out.1
end Go.Proofs.Ytbdappkhkngdlaa.prods
