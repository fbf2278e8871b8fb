/- The contracts of both CopLists. -/
import Derived.Handy
import Derived.Test.YtphlpipbhaiijaaListS
import Derived.Test.YtphlpipbhaiijaaSome
import Derived.Test.YtphlpipbhaiijaaCops
namespace Go.Proofs.Ytphlpipbhaiijaa.lists
open Go.RowKit P2 words edges ints good adjs fns sets rets apps gridr grid filled cops
set_option linter.unusedVariables false

def RowsOk (rows : List (List Int)) : Prop := gridl.tot rows ≤ 1048576 ∧ rows.length ≤ 1048576
theorem tot_rows {M : Nat} : ∀ (rows : List (List Int)), (∀ r ∈ rows, r.length ≤ M) → gridl.tot rows ≤ rows.length * M
  | [], _ => by simp [gridl.tot]
  | r :: rs, h => by
    have h1 := h r List.mem_cons_self
    have h2 := tot_rows rs fun q hq => h q (List.mem_cons_of_mem _ hq)
    have h3 : gridl.tot (r :: rs) = r.length + gridl.tot rs := by simp [gridl.tot]
    rw [h3, List.length_cons, Nat.succ_mul]; omega
theorem rows_ok {M : Nat} {rows : List (List Int)} (h : ∀ r ∈ rows, r.length ≤ M) (hM : M ≤ 1000) (hl : rows.length ≤ 1000) : RowsOk rows := by
  have h1 := tot_rows rows h
  have h2 := Nat.mul_le_mul hl hM
  exact ⟨by omega, by omega⟩
theorem rows_nil : RowsOk [] := ⟨by simp [gridl.tot], by simp⟩
theorem lists_small {n k : Nat} (hn : n ≤ 8) (hk : k ≤ 3) (f : Nat) : (listsN n k f).length ≤ 512 := by
  have h1 := lists_len hn k f
  have h2 := Nat.pow_le_pow_right (show 0 < 8 by decide) hk
  omega
theorem rowsN_ok {Ls : List (List Nat)} (h : ∀ L ∈ Ls, L.length ≤ 3) (hl : Ls.length ≤ 1000) : RowsOk (rowsN Ls) :=
  rows_ok (M := 3) (fun r hr => by obtain ⟨L, hL, rfl⟩ := List.mem_map.1 hr; rw [castL_len]; exact h L hL) (by omega) (by rw [rowsN_len]; exact hl)
noncomputable def copL (s k : Int) : List (List Int) := rowsN (listsN s.toNat k.toNat 0)
theorem copL_ok (s k : Int) (l : List Ed) : RowsOk (gdG (FieldP s l k) (copL s k)) := by
  by_cases h : FieldP s l k
  · rw [gdG_yes h]
    have h1 := h.1.2.1
    have h2 := h.2.2.2
    refine rowsN_ok (fun L hL => ?_) ?_
    · rw [(lists_mem _ _ L hL).1]; omega
    · have := lists_small (n := s.toNat) (k := k.toNat) (by omega) (by omega) 0; omega
  · rw [gdG_no h]; exact rows_nil
theorem field_some {s k : Int} {l : List Ed} : FieldP s l k ↔ SomeP s l ∧ 1 ≤ k ∧ k ≤ 3 := ⟨fun h => ⟨⟨h.1, h.2.1⟩, h.2.2⟩, fun h => ⟨h.1.1, h.1.2, h.2⟩⟩
theorem listsFrom_zero (n k : Nat) (hn : n ≤ 8) (hk : k ≤ 3) (w : World) : Calls Try.prog 166 #[.int .i64 0, .int .i64 (n : Int), .int .i64 (k : Int)] w (RetL w (listsN n k 0)) := listsFrom_any n hn k hk 0 (Nat.zero_le _) w
set_option maxHeartbeats 1000000 in
set_option maxRecDepth 100000 in
theorem implCopL_any (s k : Int) (v : Value) (l : List Ed) (w : World) (h : Edges w v l) (hl : l.length ≤ 1048576) :
    Calls Try.prog 145 #[.agg #[.int .i64 s, v], .int .i64 k] w (RetGr w (FieldP s l k) (copL s k)) := by
  obtain ⟨A, c, rfl, -⟩ := h.form
  have b0 : Below w.heap.size w (w.alloc (.cells #[.int .i64 s, .slice A l.length c] 29)) := (Below.refl _ _).alloc (Nat.le_refl _) _
  have g0 := Blk.new w 29 #[.int .i64 s, .slice A l.length c]
  have HG := Lib.hid (isFilled_any s _ l _ (h.below b0) hl)
  clear h
  by_cases hsm : SomeP s l
  · rw [okG_yes hsm] at HG
    by_cases h1 : k < 1
    · have HN : Hid (¬ FieldP s l k) := fun h => by have := h.2.2.1; omega
      have d1 : decide (k < 1) = true := decide_eq_true h1
      clear hsm h1
      go_enter Try.func145, Try.ntmps145
      go_wp2_with fail
      refine HG.out.mono ?_
      rintro e w1 ⟨rfl, b1⟩
      go_wp2_with fail
      go_ret2
      exact RetGr.nil HN.out (btrans b0 b1)
    · have d1 : decide (k < 1) = false := decide_eq_false h1
      by_cases h3 : 3 < k
      · have HN : Hid (¬ FieldP s l k) := fun h => by have := h.2.2.2; omega
        have d2 : decide (3 < k) = true := decide_eq_true h3
        clear hsm h1 h3
        go_enter Try.func145, Try.ntmps145
        go_wp2_with fail
        refine HG.out.mono ?_
        rintro e w1 ⟨rfl, b1⟩
        go_wp2_with fail
        go_ret2
        exact RetGr.nil HN.out (btrans b0 b1)
      · have d2 : decide (3 < k) = false := decide_eq_false h3
        have HY : Hid (FieldP s l k) := ⟨hsm.1, hsm.2, by omega, by omega⟩
        obtain ⟨n, rfl⟩ : ∃ n : Nat, s = (n : Int) := ⟨s.toNat, by have := hsm.2; omega⟩
        obtain ⟨m, rfl⟩ : ∃ m : Nat, k = (m : Int) := ⟨k.toNat, by omega⟩
        have HV : Hid (copL (n : Int) (m : Int) = rowsN (listsN n m 0)) := rfl
        have HL := Lib.hid (fun (W : World) => listsFrom_zero n m (by have := hsm.1.2.1; omega) (by omega) W)
        rw [HV.out]
        clear hsm h1 h3 HV
        go_enter Try.func145, Try.ntmps145
        go_wp2_with fail
        refine HG.out.mono ?_
        rintro e w1 ⟨rfl, b1⟩
        have e1 := btrans b0 b1
        have g1 := g0.below b1 g0.lt
        clear HG b0 b1 g0
        obtain ⟨p0, p1, -, -⟩ := g1.two
        go_wp2_with fail
        refine (HL.out w1).mono ?_
        rintro e w2 ⟨A2, c2, us, rfl, o2, b2⟩
        go_wp2_with fail
        go_ret2
        exact RetGr.yes HY.out (o2.base e1.size) (btrans e1 b2)
  · rw [okG_no hsm] at HG
    have HN : Hid (¬ FieldP s l k) := fun h => hsm ⟨h.1, h.2.1⟩
    clear hsm
    go_enter Try.func145, Try.ntmps145
    go_wp2_with fail
    refine HG.out.mono ?_
    rintro e w1 ⟨rfl, b1⟩
    go_wp2_with fail
    go_ret2
    exact RetGr.nil HN.out (btrans b0 b1)
end Go.Proofs.Ytphlpipbhaiijaa.lists
