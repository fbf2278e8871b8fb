/- The contracts of CopTimes: of the program and of the model. -/
import Derived.Test.YtgbdgenlmmofeaaChase
import Derived.Test.YtgbdgenlmmofeaaTimeU
namespace Go.Proofs.Ytgbdgenlmmofeaa.times
open Go.RowKit P2 words edges ints good adjs fns sets rets covs bitsI bags gridr mids grid reps apps owns
set_option linter.unusedVariables false

theorem run_field3 (a b c d : Value) (W : World) : (Instr.field 70 (.agg #[a, b, c, d]) 3).run Try.prog W = .ok d W := by kernel_rfl
theorem timesG_len (s : Int) (l : List Ed) : gridl.tot (gdG (P2.Good s l) (tabL s.toNat (tms (one l s.toNat)))) ≤ 1048576 ∧ (gdG (P2.Good s l) (tabL s.toNat (tms (one l s.toNat)))).length ≤ 1048576 := by
  by_cases h : P2.Good s l
  · rw [gdG_yes h]
    have h8 := h.2.1
    have hs : s.toNat ≤ 8 := by omega
    have hsum : ∀ (rows : List (List Int)) (m : Nat), (∀ r ∈ rows, r.length = m) → (rows.map List.length).sum = rows.length * m := by
      intro rows m hh
      induction rows with
      | nil => simp
      | cons r rs ih =>
        have := ih fun x hx => hh x (List.mem_cons_of_mem _ hx)
        simp only [List.map_cons, List.sum_cons, List.length_cons, this, hh r List.mem_cons_self, Nat.succ_mul]
        omega
    unfold gridl.tot
    rw [hsum _ s.toNat (fun r hr => by obtain ⟨p, _, rfl⟩ := List.mem_map.1 hr; exact rowL_len _ _), tabL_len]
    have := Nat.mul_le_mul hs hs
    omega
  · rw [gdG_no h]; simp [gridl.tot]
set_option maxHeartbeats 1000000 in
set_option maxRecDepth 100000 in
theorem implTimes_any (s : Int) (v : Value) (l : List Ed) (w : World) (h : Edges w v l) (hl : l.length ≤ 1048576) :
    Calls Try.prog 21 #[.agg #[.int .i64 s, v]] w (RetGr w (P2.Good s l) (tabL s.toNat (tms (one l s.toNat)))) := by
  obtain ⟨A, c, rfl, -⟩ := h.form
  have H := Lib.hid h
  have b0 : Below w.heap.size w (w.alloc (.cells #[.int .i64 s, .slice A l.length c] 29)) := (Below.refl _ _).alloc (Nat.le_refl _) _
  have g0 := Blk.new w 29 #[.int .i64 s, .slice A l.length c]
  have HG := Lib.hid (implIsGraph_any s _ l _ (h.below b0) hl)
  clear h
  by_cases hgd : P2.Good s l
  · rw [goodB_yes hgd] at HG
    have h0 := hgd.1
    have h8 := hgd.2.1
    obtain ⟨n, rfl⟩ : ∃ n : Nat, s = (n : Int) := ⟨s.toNat, by omega⟩
    rw [Int.toNat_natCast]
    have HGD := Lib.hid hgd
    clear hgd
    go_enter Try.func21, Try.ntmps21
    go_wp2_with fail
    refine HG.out.mono ?_
    rintro e w1 ⟨rfl, b1⟩
    have e1 := btrans b0 b1
    have g1 := g0.below b1 g0.lt
    clear HG b0 b1 g0
    obtain ⟨p0, p1, -, -⟩ := g1.two
    go_wp2_with fail
    refine (chaseIn_any n (.slice A l.length c) l w1 (H.out.below e1) hl HGD.out).mono ?_
    rintro e w2 ⟨cv, tv, mv, xv, us, us', rfl, -, ⟨A2, c2, rfl⟩, o2, b2⟩
    have hfd := run_field3 cv tv mv (.slice A2 (gridG n n (tms (one l n))).length c2) w2
    go_wp2_with fail
    go_ret2
    exact RetGr.yes HGD.out (o2.base e1.size) (btrans e1 b2)
  · rw [goodB_no hgd] at HG
    have HN := Lib.hid hgd
    clear hgd
    go_enter Try.func21, Try.ntmps21
    go_wp2_with fail
    refine HG.out.mono ?_
    rintro e w1 ⟨rfl, b1⟩
    go_wp2_with fail
    go_ret2
    exact RetGr.nil HN.out (btrans b0 b1)
set_option maxHeartbeats 1000000 in
set_option maxRecDepth 100000 in
theorem specTimes_any (s : Int) (v : Value) (l : List Ed) (w : World) (h : Edges w v l) (hl : l.length ≤ 1048576) (hs1 : -9223372036854775808 ≤ s) (hs2 : s ≤ 9223372036854775807) :
    Calls Try.prog 20 #[.agg #[.int .i64 s, v]] w (RetGr w (P2.Good s l) (tabL s.toNat (tms (one l s.toNat)))) := by
  obtain ⟨A, c, rfl, -⟩ := h.form
  have H := Lib.hid h
  have b0 : Below w.heap.size w (w.alloc (.cells #[.int .i64 s, .slice A l.length c] 29)) := (Below.refl _ _).alloc (Nat.le_refl _) _
  have g0 := Blk.new w 29 #[.int .i64 s, .slice A l.length c]
  have HG := Lib.hid (l2Good_any s _ l _ (h.below b0) hl hs1 hs2)
  clear h
  by_cases hgd : P2.Good s l
  · rw [goodB_yes hgd] at HG
    have h0 := hgd.1
    have h8 := hgd.2.1
    obtain ⟨n, rfl⟩ : ∃ n : Nat, s = (n : Int) := ⟨s.toNat, by omega⟩
    have hn : n ≤ 8 := by omega
    rw [Int.toNat_natCast]
    have HGD := Lib.hid hgd
    clear hgd
    go_enter Try.func20, Try.ntmps20
    go_wp2_with fail
    refine HG.out.mono ?_
    rintro e w1 ⟨rfl, b1⟩
    have e1 := btrans b0 b1
    have g1 := g0.below b1 g0.lt
    clear HG b0 b1 g0
    obtain ⟨p0, p1, -, -⟩ := g1.two
    go_wp2_with fail
    refine (l3Times_any n (.slice A l.length c) l w1 (H.out.below e1) hl hn).mono ?_
    rintro e w2 ⟨A2, c2, us, rfl, o2, b2⟩
    go_wp2_with fail
    go_ret2
    exact RetGr.yes HGD.out (o2.base e1.size) (btrans e1 b2)
  · rw [goodB_no hgd] at HG
    have HN := Lib.hid hgd
    clear hgd
    go_enter Try.func20, Try.ntmps20
    go_wp2_with fail
    refine HG.out.mono ?_
    rintro e w1 ⟨rfl, b1⟩
    have e1 := btrans b0 b1
    go_wp2_with fail
    go_ret2
    exact RetGr.no HN.out (own_base (own_new0 _ _ _) e1.size) (e1.alloc e1.size _)
end Go.Proofs.Ytgbdgenlmmofeaa.times
