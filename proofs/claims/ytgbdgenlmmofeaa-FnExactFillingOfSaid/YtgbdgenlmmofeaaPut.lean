/- The contract of the model's l2Put: an edge is put to its place. -/
import Derived.Test.YtgbdgenlmmofeaaApp
import Derived.Test.YtgbdgenlmmofeaaGood
import Derived.Test.YtgbdgenlmmofeaaInts
import Derived.Deep.DeepCutAuto
namespace Go.Proofs.Ytgbdgenlmmofeaa.put
open Go.RowKit P2 words edges ints good apps

/-- L is l with e put to its place -/
def PutIs (l : List Ed) (e : Ed) (L : List Ed) : Prop :=
  ∃ k, k ≤ l.length ∧ (∀ j x, j < k → l[j]? = some x → Lex x e) ∧ (∀ x, l[k]? = some x → ¬ Lex x e) ∧ L = l.take k ++ e :: l.drop k
theorem PutIs.len {l L : List Ed} {e : Ed} (h : PutIs l e L) : L.length = l.length + 1 := by
  obtain ⟨k, hk, _, _, rfl⟩ := h
  simp; omega
theorem PutIs.mem {l L : List Ed} {e x : Ed} (h : PutIs l e L) : x ∈ L ↔ x = e ∨ x ∈ l := by
  obtain ⟨k, hk, _, _, rfl⟩ := h
  rw [List.mem_append, List.mem_cons]
  constructor
  · rintro (h | h | h)
    · exact .inr (List.mem_of_mem_take h)
    · exact .inl h
    · exact .inr (List.mem_of_mem_drop h)
  · rintro (h | h)
    · exact .inr (.inl h)
    · rw [← List.take_append_drop k l, List.mem_append] at h
      rcases h with h | h
      · exact .inl h
      · exact .inr (.inr h)
theorem lex_total {a b : Ed} (h : ¬ Lex a b) (hne : a ≠ b) : Lex b a := by
  unfold Lex at *
  have : ¬ (a.1 = b.1 ∧ a.2 = b.2) := fun hh => hne (Prod.ext hh.1 hh.2)
  omega
theorem PutIs.sorted {l L : List Ed} {e : Ed} (h : PutIs l e L) (hs : l.Pairwise Lex) (he : e ∉ l) : L.Pairwise Lex := by
  obtain ⟨k, hk, h1, h2, rfl⟩ := h
  rw [List.pairwise_append]
  refine ⟨hs.sublist (List.take_sublist _ _), ?_, ?_⟩
  · rw [List.pairwise_cons]
    refine ⟨fun x hx => ?_, hs.sublist (List.drop_sublist _ _)⟩
    have hkl : k < l.length := by
      rcases Nat.lt_or_ge k l.length with h | h
      · exact h
      · rw [List.drop_eq_nil_of_le h] at hx; cases hx
    have hd := List.drop_eq_getElem_cons hkl
    have hk0 := lex_total (h2 l[k] (List.getElem?_eq_getElem hkl)) (fun e' => he (e' ▸ List.getElem_mem hkl))
    rw [hd] at hx
    rcases List.mem_cons.1 hx with rfl | hx
    · exact hk0
    · have hsd := hs.sublist (List.drop_sublist k l)
      rw [hd, List.pairwise_cons] at hsd
      exact hk0.trans (hsd.1 x hx)
  · intro x hx y hy
    obtain ⟨j, hj⟩ := List.getElem?_of_mem hx
    rw [List.getElem?_take] at hj
    split at hj
    · rename_i hjk
      have hxe := h1 j x hjk hj
      rcases List.mem_cons.1 hy with rfl | hy
      · exact hxe
      · have := List.pairwise_append.1 (by rw [List.take_append_drop k l]; exact hs : (l.take k ++ l.drop k).Pairwise Lex)
        exact this.2.2 x hx y hy
    · cases hj

theorem blk_reads {w : World} {g : Nat} {t : TypeId} {a b : Int} (h : Blk w g t #[.int .i64 a, .int .i64 b]) : Reads w 2 (.slice (some ⟨g, 0, none⟩) 1 1) 1 (cellsE [(a, b)]) := by
  refine ⟨_, _, rfl, fun _ => ⟨g, 0, rfl, by omega, fun j u hu => ?_⟩⟩
  rw [Nat.zero_add]
  refine (h.cell j).trans ?_
  rw [← hu]
  match j with
  | 0 => rfl
  | 1 => rfl
  | j + 2 => simp [cellsE]
theorem rd_some {W : World} {g o c k n : Nat} {xs : List Value} (h : Reads W 2 (.slice (if c = k then some ⟨g, o, none⟩ else (some (⟨g, o, none⟩ : Addr)).map (·.add (k * 2))) (n - k) (c - k)) (n - k) xs) :
    Reads W 2 (.slice (if c = k then some ⟨g, o, none⟩ else some ⟨g, o + k * 2, none⟩) (n - k) (c - k)) (n - k) xs := by
  simpa [apps.addr_add] using h

set_option maxHeartbeats 2000000 in
set_option maxRecDepth 100000 in
theorem l2Put_any (v : Value) (l : List Ed) (a b : Int) (w : World) (h : Edges w v l) (hl : l.length ≤ 1048576) :
    Calls Try.prog 99 #[v, .agg #[.int .i64 a, .int .i64 b]] w fun e w' => ∃ L A c, e = .returned (.slice A L.length c) ∧ PutIs l (a, b) L ∧ w'.ownsRow w.heap.size 90 2 (.slice A L.length c) L.length (cellsE L) ∧ Below w.heap.size w w' := by
  obtain ⟨i0, hi, hz0, hz1, hz2⟩ := info_parts infoEd
  obtain ⟨A, c, rfl, hc⟩ := h.form
  have H := Lib.hid h
  have HC := Lib.hid hc
  have b0 : Below w.heap.size w (w.alloc (.cells #[.int .i64 a, .int .i64 b] 90)) := (Below.refl _ _).alloc (Nat.le_refl _) _
  have g0 := Blk.new w 90 #[.int .i64 a, .int .i64 b]
  have hcap : l.length ≤ c := by
    rcases Nat.eq_zero_or_pos l.length with h0 | h0
    · omega
    · obtain ⟨A', c', e, hx⟩ := h
      cases e
      exact (hx h0).choose_spec.choose_spec.2.1
  clear h hc
  go_enter Try.func99, Try.ntmps99
  go_wp2_with fail
  go_loopg [5] l.length (fun g i wr => ∃ k : Nat, k + g = l.length ∧ i = .int .i64 (k : Int) ∧ Hid (∀ j x, j < k → l[j]? = some x → Lex x (a, b)) ∧ Blk wr w.heap.size 90 #[.int .i64 a, .int .i64 b] ∧ Below w.heap.size w wr)
  case atStart => exact ⟨0, by omega, rfl, fun j x hj => by omega, g0, b0⟩
  case round =>
    obtain ⟨k, hkg, rfl, hlex, hgb, hB⟩ := hrel
    have hs0 := hgb.lt
    obtain ⟨p0, p1, -, -⟩ := hgb.two
    by_cases hgo : k < l.length ∧ ∃ x, l[k]? = some x ∧ Lex x (a, b)
    · obtain ⟨hlt, x, hx, hL⟩ := hgo
      obtain ⟨g, o, rfl, c0, c1⟩ := HC.out k x hx
      have hlt' : (k : Int) < (l.length : Int) := by omega
      have q0 : wr.cell? ⟨g, o + k * 2, none⟩ = some (.int .i64 x.1) := (hB.cell (p := ⟨g, o + k * 2, none⟩) (World.block_lt_of_cell? w (a := ⟨g, o + k * 2, none⟩) c0)).trans c0
      have q1 : wr.cell? ⟨g, o + k * 2 + 1, none⟩ = some (.int .i64 x.2) := (hB.cell (p := ⟨g, o + k * 2 + 1, none⟩) (World.block_lt_of_cell? w (a := ⟨g, o + k * 2 + 1, none⟩) c1)).trans c1
      have HK : Hid (∀ j x, j < k + 1 → l[j]? = some x → Lex x (a, b)) := fun j y hj hy => by
        by_cases e : j = k
        · subst e; rw [hx] at hy; cases hy; exact hL
        · exact hlex.out j y (by omega) hy
      obtain ⟨x1, x2⟩ := x
      have il : lexB (x1, x2) (a, b) = true := by simpa [lexB] using hL
      have HG := Lib.hid hgb
      clear hx hL c0 c1 hgb
      cases gk with
      | zero => omega
      | succ gg =>
        go_wp2_with fail
        go_region_held3 (fun w' => w'.cell? ⟨g, o + k * 2, none⟩ = some (.int .i64 x1) ∧ w'.cell? ⟨g, o + k * 2 + 1, none⟩ = some (.int .i64 x2) ∧ w'.cell? ⟨w.heap.size, 0, none⟩ = some (.int .i64 a) ∧ w'.cell? ⟨w.heap.size, 1, none⟩ = some (.int .i64 b)) (go_keep)
          (first | (go_at_call 81; refine (keep4 (p := ⟨g, o + k * 2, none⟩) (q := ⟨g, o + k * 2 + 1, none⟩) (r := ⟨w.heap.size, 0, none⟩) (s := ⟨w.heap.size, 1, none⟩) (l2Before_any x1 x2 a b _) (a := .int .i64 x1) (b := .int .i64 x2) (c := .int .i64 a) (d := .int .i64 b) ?_ ?_ ?_ ?_).mono ?_; (simp [*]); (simp [*]); (simp [*]); (simp [*]); rintro e w1 ⟨rfl, k0, k1, k2, k3, hb⟩))
        have hB2 : Below w.heap.size w w1 := hB.drew.trans (hb.mono hB.size)
        have hb2 : Blk w1 w.heap.size 90 #[.int .i64 a, .int .i64 b] := HG.out.below (below_drewN (Below.refl _ _) 1 |>.trans hb) hs0
        clear hb hB k0 k1 k2 k3
        go_wp2_with fail
        go_roundg gg
        case measure => omega
        case rel => exact ⟨k + 1, by omega, by go_num, HK, hb2, hB2⟩
    · have hR1 : ∀ x, l[k]? = some x → ¬ Lex x (a, b) := fun x hx hL => hgo ⟨(List.getElem?_eq_some_iff.1 hx).1, x, hx, hL⟩
      have hP : PutIs l (a, b) (l.take k ++ (a, b) :: l.drop k) := ⟨k, by omega, hlex.out, hR1, rfl⟩
      have HP := Lib.hid hP
      have HR1 := Lib.hid hR1
      clear hR1 hgo hP
      by_cases hlt : k < l.length
      all_goals
        (first
          | (have hlt' : (k : Int) < (l.length : Int) := by omega
             obtain ⟨x, hx⟩ : ∃ x, l[k]? = some x := ⟨_, List.getElem?_eq_getElem hlt⟩
             obtain ⟨g, o, rfl, c0, c1⟩ := HC.out k x hx
             have q0 : wr.cell? ⟨g, o + k * 2, none⟩ = some (.int .i64 x.1) := (hB.cell (p := ⟨g, o + k * 2, none⟩) (World.block_lt_of_cell? w (a := ⟨g, o + k * 2, none⟩) c0)).trans c0
             have q1 : wr.cell? ⟨g, o + k * 2 + 1, none⟩ = some (.int .i64 x.2) := (hB.cell (p := ⟨g, o + k * 2 + 1, none⟩) (World.block_lt_of_cell? w (a := ⟨g, o + k * 2 + 1, none⟩) c1)).trans c1
             have hnl := HR1.out x hx
             obtain ⟨x1, x2⟩ := x
             have il : lexB (x1, x2) (a, b) = false := by simpa [lexB] using hnl
             have HGB := Lib.hid hgb
             clear hx hnl c0 c1 hgb
             go_wp2_with fail
             go_region_held3 (fun w' => w'.cell? ⟨g, o + k * 2, none⟩ = some (.int .i64 x1) ∧ w'.cell? ⟨g, o + k * 2 + 1, none⟩ = some (.int .i64 x2) ∧ w'.cell? ⟨w.heap.size, 0, none⟩ = some (.int .i64 a) ∧ w'.cell? ⟨w.heap.size, 1, none⟩ = some (.int .i64 b)) (go_keep)
               (first | (go_at_call 81; refine (keep4 (p := ⟨g, o + k * 2, none⟩) (q := ⟨g, o + k * 2 + 1, none⟩) (r := ⟨w.heap.size, 0, none⟩) (s := ⟨w.heap.size, 1, none⟩) (l2Before_any x1 x2 a b _) (a := .int .i64 x1) (b := .int .i64 x2) (c := .int .i64 a) (d := .int .i64 b) ?_ ?_ ?_ ?_).mono ?_; (simp [*]); (simp [*]); (simp [*]); (simp [*]); rintro e w5 ⟨rfl, k0, k1, k2, k3, hb⟩))
             have B5 : Below w.heap.size w w5 := hB.drew.trans (hb.mono hB.size)
             have G5 : Blk w5 w.heap.size 90 #[.int .i64 a, .int .i64 b] := HGB.out.below (below_drewN (Below.refl _ _) 1 |>.trans hb) hs0
             clear hb hB k0 k1 k2 k3 q0 q1 p0 p1 HGB hs0
             go_wp2_with fail)
          | (have hkz : ¬ ((k : Int) < (l.length : Int)) := by omega
             have dk : decide ((k : Int) < (l.length : Int)) = false := by simpa using hkz
             have dk' : decide (k < l.length) = false := by simpa using hlt
             go_wp2_with fail
             go_quiet (fail)
             go_wp2_with fail
             have B5 : Below w.heap.size w (wr.drewN nq) := below_drewN hB nq
             have G5 : Blk (wr.drewN nq) w.heap.size 90 #[.int .i64 a, .int .i64 b] := hgb
             clear hgb hB p0 p1 hs0
             generalize wr.drewN nq = w5 at *))
        have hs5 := G5.lt
        have hz5 := B5.size
        obtain ⟨p0, p1, -, -⟩ := G5.two
        have hkl : k ≤ l.length := by omega
        have hkc : k ≤ c := by omega
        have RT := Lib.hid (fun (W : World) (hb : Below w.heap.size w W) => by have := Reads.take (c' := c) (H.out.below hb) hkl hkc; rw [cellsE_take] at this; exact this)
        have RD := Lib.hid (fun (W : World) (hb : Below w.heap.size w W) => by have := Reads.drop (H.out.below hb) hkl; rw [cellsE_drop] at this; exact this)
        have lt : (cellsE (l.take k)).length = k * 2 := by rw [cellsE_len, List.length_take, Nat.min_eq_left hkl]
        have ld : (cellsE (l.drop k)).length = (l.length - k) * 2 := by rw [cellsE_len, List.length_drop]
        have LT := Lib.hid lt
        have LD := Lib.hid ld
        have F1 := Lib.hid (show ((w5.alloc (.cells #[] 90)).drew).ownsRow w.heap.size 90 2 (.slice (some ⟨w5.heap.size, 0, none⟩) 0 0) 0 [] from own_base (own_new0 w5.drew 90 2) hz5)
        have F2 := Lib.hid (show (((w5.alloc (.cells #[] 90)).alloc (.cells #[.int .i64 a, .int .i64 b] 90)).drew).ownsRow w.heap.size 90 2 (.slice (some ⟨w5.heap.size, 0, none⟩) 0 0) 0 [] from (own_base (own_new0 w5.drew 90 2) hz5).alloc _)
        have F3 := Lib.hid (show (((w5.alloc (.cells #[.int .i64 a, .int .i64 b] 90)).alloc (.cells #[] 90)).drew).ownsRow w.heap.size 90 2 (.slice (some ⟨w5.heap.size + 1, 0, none⟩) 0 0) 0 [] from by
          have t := own_new0 (w5.alloc (.cells #[.int .i64 a, .int .i64 b] 90)) 90 2
          rw [World.size_alloc] at t
          exact own_base t (by omega))
        have B1 := Lib.hid (show Below w.heap.size w ((w5.alloc (.cells #[] 90)).drew) from (B5.alloc hz5 _).drew)
        have B2 := Lib.hid (show Below w.heap.size w (((w5.alloc (.cells #[] 90)).alloc (.cells #[.int .i64 a, .int .i64 b] 90)).drew) from ((B5.alloc hz5 _).alloc (by simp; omega) _).drew)
        have B3 := Lib.hid (show Below w.heap.size w (((w5.alloc (.cells #[.int .i64 a, .int .i64 b] 90)).alloc (.cells #[] 90)).drew) from ((B5.alloc hz5 _).alloc (by simp; omega) _).drew)
        have N1 := Lib.hid (show Blk ((w5.alloc (.cells #[] 90)).drew) w.heap.size 90 #[.int .i64 a, .int .i64 b] from (G5.alloc (.cells #[] 90)).drewN 1)
        have N2 := Lib.hid (show Blk (((w5.alloc (.cells #[] 90)).alloc (.cells #[.int .i64 a, .int .i64 b] 90)).drew) w.heap.size 90 #[.int .i64 a, .int .i64 b] from ((G5.alloc (.cells #[] 90)).alloc (.cells #[.int .i64 a, .int .i64 b] 90)).drewN 1)
        have N3 := Lib.hid (show Blk (((w5.alloc (.cells #[.int .i64 a, .int .i64 b] 90)).alloc (.cells #[] 90)).drew) w.heap.size 90 #[.int .i64 a, .int .i64 b] from ((G5.alloc (.cells #[.int .i64 a, .int .i64 b] 90)).alloc (.cells #[] 90)).drewN 1)
        have Y2 := Lib.hid (show Blk (((w5.alloc (.cells #[] 90)).alloc (.cells #[.int .i64 a, .int .i64 b] 90)).drew) (w5.heap.size + 1) 90 #[.int .i64 a, .int .i64 b] from by
          have t := (Blk.new (w5.alloc (.cells #[] 90)) 90 #[.int .i64 a, .int .i64 b]).drewN 1
          rw [World.size_alloc] at t; exact t)
        have Y3 := Lib.hid (show Blk (((w5.alloc (.cells #[.int .i64 a, .int .i64 b] 90)).alloc (.cells #[] 90)).drew) w5.heap.size 90 #[.int .i64 a, .int .i64 b] from ((Blk.new w5 90 #[.int .i64 a, .int .i64 b]).alloc (.cells #[] 90)).drewN 1)
        clear lt ld B5 G5
        go_region_law (first
          | ((first
                | (refine step_append_any _ rfl (.tmp 20) (.tmp 23) 22 rfl w.heap.size 90 i0 (.agg #[.int .i64 0, .int .i64 0]) 2 16 Try.underlying22 hi hz0 hz1 hz2 rfl (by decide) (.slice (some ⟨w5.heap.size, 0, none⟩) 0 0) 0 [] rfl ?_ (.slice A k c) k (cellsE (l.take k)) rfl ?_ LT.out (oneE _) (by unfold maxLen; omega) (by omega) (by simp; omega) ?_)
                | (refine step_append_any _ rfl (.tmp 20) (.tmp 23) 22 rfl w.heap.size 90 i0 (.agg #[.int .i64 0, .int .i64 0]) 2 16 Try.underlying22 hi hz0 hz1 hz2 rfl (by decide) (.slice (some ⟨w5.heap.size + 1, 0, none⟩) 0 0) 0 [] rfl ?_ (.slice A k c) k (cellsE (l.take k)) rfl ?_ LT.out (oneE _) (by unfold maxLen; omega) (by omega) (by simp; omega) ?_)
                | (refine step_append_any _ rfl (.tmp 20) (.tmp 23) 22 rfl w.heap.size 90 i0 (.agg #[.int .i64 0, .int .i64 0]) 2 16 Try.underlying22 hi hz0 hz1 hz2 rfl (by decide) (.slice (some ⟨w5.heap.size, 0, none⟩) 0 0) 0 [] rfl ?_ (.slice (some ⟨g, o, none⟩) k c) k (cellsE (l.take k)) rfl ?_ LT.out (oneE _) (by unfold maxLen; omega) (by omega) (by simp; omega) ?_)
                | (refine step_append_any _ rfl (.tmp 20) (.tmp 23) 22 rfl w.heap.size 90 i0 (.agg #[.int .i64 0, .int .i64 0]) 2 16 Try.underlying22 hi hz0 hz1 hz2 rfl (by decide) (.slice (some ⟨w5.heap.size + 1, 0, none⟩) 0 0) 0 [] rfl ?_ (.slice (some ⟨g, o, none⟩) k c) k (cellsE (l.take k)) rfl ?_ LT.out (oneE _) (by unfold maxLen; omega) (by omega) (by simp; omega) ?_))
             (first | with_reducible exact F1.out | with_reducible exact F2.out | with_reducible exact F3.out)
             refine RT.out _ ?_
             (first | with_reducible exact B1.out | with_reducible exact B2.out | with_reducible exact B3.out)
             intro v1 w1 o1 g1
             rw [Nat.zero_add, List.nil_append] at o1
             (first
               | (have e1 := B1.out.grown g1 (by simp; omega) (fun k hk => by simp [Value.ownBlock] at hk; omega); have n1 := N1.out.grown g1 (by simp [Value.ownBlock]; omega))
               | (have e1 := B2.out.grown g1 (by simp; omega) (fun k hk => by simp [Value.ownBlock] at hk; omega); have n1 := N2.out.grown g1 (by simp [Value.ownBlock]; omega); have y1 := Y2.out.grown g1 (by simp [Value.ownBlock]))
               | (have e1 := B3.out.grown g1 (by simp; omega) (fun k hk => by simp [Value.ownBlock] at hk; omega); have n1 := N3.out.grown g1 (by simp [Value.ownBlock]; omega); have y1 := Y3.out.grown g1 (by simp [Value.ownBlock])))
             obtain ⟨m0, m1, -, -⟩ := n1.two
             have s1 := e1.size)
          | ((first
                | (refine step_append_any _ rfl (.tmp 24) (.tmp 26) 22 rfl w.heap.size 90 i0 (.agg #[.int .i64 0, .int .i64 0]) 2 16 Try.underlying22 hi hz0 hz1 hz2 rfl (by decide) v1 k (cellsE (l.take k)) rfl ?_ (.slice (some ⟨w1.heap.size, 0, none⟩) 1 1) 1 (cellsE [(a, b)]) rfl ?_ rfl (oneE _) (by unfold maxLen; omega) (by omega) ?_ ?_)
                | (refine step_append_any _ rfl (.tmp 24) (.tmp 26) 22 rfl w.heap.size 90 i0 (.agg #[.int .i64 0, .int .i64 0]) 2 16 Try.underlying22 hi hz0 hz1 hz2 rfl (by decide) v1 k (cellsE (l.take k)) rfl ?_ (.slice (some ⟨w5.heap.size + 1, 0, none⟩) 1 1) 1 (cellsE [(a, b)]) rfl ?_ rfl (oneE _) (by unfold maxLen; omega) (by omega) ?_ ?_)
                | (refine step_append_any _ rfl (.tmp 24) (.tmp 26) 22 rfl w.heap.size 90 i0 (.agg #[.int .i64 0, .int .i64 0]) 2 16 Try.underlying22 hi hz0 hz1 hz2 rfl (by decide) v1 k (cellsE (l.take k)) rfl ?_ (.slice (some ⟨w5.heap.size, 0, none⟩) 1 1) 1 (cellsE [(a, b)]) rfl ?_ rfl (oneE _) (by unfold maxLen; omega) (by omega) ?_ ?_))
             (first | with_reducible exact o1 | with_reducible exact o1.alloc _)
             (first | with_reducible exact blk_reads y1 | with_reducible exact blk_reads (Blk.new w1 _ _))
             (first | with_reducible exact s1 | with_reducible exact Nat.le_trans s1 (by simp))
             intro v2 w2 o2 g2
             (first
               | have e2 := e1.grown g2 s1 (fun q hq => (o1.lt q hq).1)
               | have e2 := (e1.alloc s1 _).grown g2 (Nat.le_trans s1 (by simp)) (fun q hq => (o1.lt q hq).1))
             have s2 := e2.size)
          | ((first
                | (refine step_append_any _ rfl (.tmp 27) (.tmp 30) 22 rfl w.heap.size 90 i0 (.agg #[.int .i64 0, .int .i64 0]) 2 16 Try.underlying22 hi hz0 hz1 hz2 rfl (by decide) v2 (k + 1) (cellsE (l.take k) ++ cellsE [(a, b)]) rfl ?_ (.slice (if c = k then some ⟨g, o, none⟩ else some ⟨g, o + k * 2, none⟩) (l.length - k) (c - k)) (l.length - k) (cellsE (l.drop k)) rfl ?_ LD.out (oneE _) (by unfold maxLen; omega) (by omega) s2 ?_)
                | (refine step_append_any _ rfl (.tmp 27) (.tmp 30) 22 rfl w.heap.size 90 i0 (.agg #[.int .i64 0, .int .i64 0]) 2 16 Try.underlying22 hi hz0 hz1 hz2 rfl (by decide) v2 (k + 1) (cellsE (l.take k) ++ cellsE [(a, b)]) rfl ?_ (.slice (if c = k then A else Option.map (fun x => x.add (k * 2)) A) (l.length - k) (c - k)) (l.length - k) (cellsE (l.drop k)) rfl ?_ LD.out (oneE _) (by unfold maxLen; omega) (by omega) s2 ?_))
             with_reducible exact o2
             (first | with_reducible exact rd_some (RD.out _ e2) | with_reducible exact RD.out _ e2)
             intro v3 w3 o3 g3
             have e3 := e2.grown g3 s2 (fun q hq => (o2.lt q hq).1)))
        all_goals
          have hw3 : w3.ownsRow w.heap.size 90 2 v3 (l.take k ++ (a, b) :: l.drop k).length (cellsE (l.take k ++ (a, b) :: l.drop k)) := by
            have e1 : (l.take k ++ (a, b) :: l.drop k).length = k + 1 + (l.length - k) := by
              rw [List.length_append, List.length_cons, List.length_take, List.length_drop, Nat.min_eq_left hkl]; omega
            have e2 : cellsE (l.take k ++ (a, b) :: l.drop k) = cellsE (l.take k) ++ cellsE [(a, b)] ++ cellsE (l.drop k) := by simp [cellsE]
            rw [e1, e2]; exact o3
          generalize hn : (l.take k ++ (a, b) :: l.drop k).length = n3 at hw3
          obtain ⟨A3, c3, rfl⟩ := own_form hw3
          clear o3 g3
          go_wp2_with fail
          all_goals (go_ret; subst hn; exact ⟨_, A3, c3, rfl, HP.out, hw3, e3⟩)
end Go.Proofs.Ytgbdgenlmmofeaa.put
