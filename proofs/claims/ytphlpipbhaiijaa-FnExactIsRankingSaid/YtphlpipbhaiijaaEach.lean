/- Lists that have each node once: the contracts of the program's hasOrder and of the model's l2Each. -/
import Derived.Handy
import Derived.Test.YtphlpipbhaiijaaBall
import Derived.Maps.OwnSet
namespace Go.Proofs.Ytphlpipbhaiijaa.each
open Go.RowKit Go.Maps P2 words edges ints good near adjs fns sets rets covs balls
set_option linter.unusedVariables false

theorem cell_keep {w w' : World} {b o : Nat} {v : Value} (h : w.cell? ⟨b, o, none⟩ = some v) (hb : Below w.heap.size w w') : w'.cell? ⟨b, o, none⟩ = some v :=
  (hb.cell (p := ⟨b, o, none⟩) (World.block_lt_of_cell? w (a := ⟨b, o, none⟩) h)).trans h
/-- a list has each node once -/
def EachS (n : Nat) (tl : List Int) : Prop := tl.length = n ∧ ∀ k : Nat, k < n → (k : Int) ∈ tl
theorem allN_nodup (n : Nat) : (allN n).Nodup := by
  unfold allN
  rw [List.Nodup, List.pairwise_map]
  exact List.pairwise_lt_range.imp (fun {a b} h e => by omega)
theorem EachS.range {n : Nat} {tl : List Int} (h : EachS n tl) : ∀ x ∈ tl, 0 ≤ x ∧ x < (n : Int) := fun x hx => by
  apply Classical.byContradiction
  intro hn
  have hnd : (x :: allN n).Nodup := List.nodup_cons.2 ⟨fun hm => hn (mem_allN.1 hm), allN_nodup n⟩
  have hsub : (x :: allN n) ⊆ tl := fun y hy => by
    rcases List.mem_cons.1 hy with rfl | hy
    · exact hx
    · have := mem_allN.1 hy
      have h2 := h.2 y.toNat (by omega)
      rwa [show ((y.toNat : Nat) : Int) = y from by omega] at h2
  have := hnd.length_le_of_subset hsub
  have h1 := h.1
  rw [List.length_cons, allN_len] at this
  omega

/-- the distinct numbers of a list -/
def addD (L : List Int) (x : Int) : List Int := if x ∈ L then L else L ++ [x]
def dst (xs : List Int) : List Int := xs.foldl addD []
theorem mem_addD {L : List Int} {x y : Int} : y ∈ addD L x ↔ y ∈ L ∨ y = x := by
  unfold addD
  split
  · rename_i h; exact ⟨.inl, fun hh => by rcases hh with hh | rfl; exact hh; exact h⟩
  · simp
theorem addD_nodup {L : List Int} {x : Int} (h : L.Nodup) : (addD L x).Nodup := by
  unfold addD
  split
  · exact h
  · rename_i hx
    rw [List.nodup_append]
    exact ⟨h, by simp, fun a ha b hb e => hx (by rw [List.mem_singleton] at hb; subst hb; rw [← e]; exact ha)⟩
theorem mem_fold : ∀ (xs L : List Int) (y : Int), y ∈ xs.foldl addD L ↔ y ∈ L ∨ y ∈ xs
  | [], L, y => by simp
  | x :: xs, L, y => by
    rw [List.foldl_cons, mem_fold xs, mem_addD, List.mem_cons, or_assoc]
theorem fold_nodup : ∀ (xs L : List Int), L.Nodup → (xs.foldl addD L).Nodup
  | [], L, h => h
  | x :: xs, L, h => by rw [List.foldl_cons]; exact fold_nodup xs _ (addD_nodup h)
theorem mem_dst {xs : List Int} {y : Int} : y ∈ dst xs ↔ y ∈ xs := by unfold dst; rw [mem_fold]; simp
theorem dst_nodup (xs : List Int) : (dst xs).Nodup := fold_nodup xs [] (by simp)
theorem dst_succ {xs : List Int} {k : Nat} {x : Int} (h : xs[k]? = some x) : dst (xs.take (k + 1)) = addD (dst (xs.take k)) x := by
  unfold dst
  rw [List.take_add_one, h, List.foldl_append]; rfl
theorem dst_len (xs : List Int) : (dst xs).length ≤ xs.length := (dst_nodup xs).length_le_of_subset (fun y hy => mem_dst.1 hy)
theorem each_dst {n : Nat} {tl : List Int} (hl : tl.length = n) (hr : ∀ x ∈ tl, 0 ≤ x ∧ x < (n : Int)) : EachS n tl ↔ (dst tl).length = n := by
  constructor
  · intro h
    have h1 : (allN n).length ≤ (dst tl).length := (allN_nodup n).length_le_of_subset (fun y hy => mem_dst.2 (by
      have := mem_allN.1 hy
      have h2 := h.2 y.toNat (by omega)
      rwa [show ((y.toNat : Nat) : Int) = y from by omega] at h2))
    have h2 := dst_len tl
    rw [allN_len] at h1
    omega
  · intro h
    refine ⟨hl, fun k hk => Classical.byContradiction fun hn => ?_⟩
    have hnd : ((k : Int) :: dst tl).Nodup := List.nodup_cons.2 ⟨fun hm => hn (mem_dst.1 hm), dst_nodup tl⟩
    have hsub : ((k : Int) :: dst tl) ⊆ allN n := fun y hy => by
      rcases List.mem_cons.1 hy with rfl | hy
      · exact mem_allN.2 (by omega)
      · exact mem_allN.2 (hr y (mem_dst.1 hy))
    have := hnd.length_le_of_subset hsub
    rw [List.length_cons, allN_len] at this
    omega

theorem lawI : Keyed Try.prog 3 := int_keyed Try.underlying3
theorem ikey {x : Int} (h : In64 x) : keyOf Try.prog 3 (.int .i64 x) = some (.int .i64 x) := keyOf_int_mk Try.underlying3 (wf64 h)
/-- the map has just these numbers -/
def MapI (D : DataW Unit) (xs : List Int) : Prop := Tidy D ∧ (∀ m : Int, has D (.int .i64 m) = decide (m ∈ xs)) ∧ Maps.size D = (dst xs).length
theorem mapI_nil : MapI (.map []) [] := ⟨tidy_empty, fun _ => by simp [has], rfl⟩
theorem MapI.put {D : DataW Unit} {xs : List Int} {k : Nat} {x : Int} (h : MapI D (xs.take k)) (hx : xs[k]? = some x) (hi : In64 x) : MapI (D.put (.int .i64 x) (.lit (.bool true))) (xs.take (k + 1)) := by
  have hk := lawI.key (ikey hi)
  have ht : xs.take (k + 1) = xs.take k ++ [x] := by rw [List.take_add_one, hx]; rfl
  refine ⟨h.1.put hk _, fun m => ?_, ?_⟩
  · by_cases e : m = x
    · subst e
      rw [has_put_same h.1.isMap hk, ht]
      simp
    · rw [has_put_other (fun hh => e (by simpa using hh)), h.2.1 m, ht, decide_eq_decide, List.mem_append]
      simp [e]
  · rw [size_put h.1, h.2.1 x, dst_succ hx, h.2.2]
    unfold addD
    by_cases hm : x ∈ xs.take k
    · rw [if_pos (by simpa using hm), if_pos (mem_dst.2 hm)]
    · rw [if_neg (by simpa using hm), if_neg (fun hh => hm (mem_dst.1 hh)), List.length_append]; rfl

theorem notEach_len {s : Int} {l : List Ed} {tl : List Int} (h : ¬ (tl.length : Int) = s) : ¬ (P2.Good s l ∧ EachS s.toNat tl) := fun hh => h (by
  have h1 := hh.2.1; have h2 := hh.1.1; omega)
theorem notEach_nodes {s : Int} {l : List Ed} {tl : List Int} (h : nodesB s l tl = false) : ¬ (P2.Good s l ∧ EachS s.toNat tl) := fun hh => by
  have h2 := hh.1.1
  have := nodesB_yes hh.1 (fun x hx => by have := hh.2.range x hx; omega)
  rw [h] at this; cases this

set_option maxHeartbeats 2000000 in
set_option maxRecDepth 100000 in
theorem hasOrder_any (s : Int) (v u : Value) (l : List Ed) (tl : List Int) (w : World) (h : Edges w v l) (hl : l.length ≤ 1048576) (hu : Ints w u tl) (htl : tl.length ≤ 1048576) :
    Calls Try.prog 54 #[.agg #[.int .i64 s, v], u] w fun e w' => e = .returned (.bool (okG (P2.Good s l ∧ EachS s.toNat tl))) ∧ Below w.heap.size w w' := by
  obtain ⟨A, c, rfl, -⟩ := h.form
  obtain ⟨A2, c2, rfl, hc2⟩ := hu.form
  have H := Lib.hid h
  have HU := Lib.hid hu
  have HC := Lib.hid hc2
  have hmm := @run_makeMap Try.prog
  have b0 : Below w.heap.size w (w.alloc (.cells #[.int .i64 s, .slice A l.length c] 29)) := (Below.refl _ _).alloc (Nat.le_refl _) _
  have g0 := Blk.new w 29 #[.int .i64 s, .slice A l.length c]
  have HN := Lib.hid (hasNodes_any s (.slice A l.length c) (.slice A2 tl.length c2) l tl _ (h.below b0) hl (hu.below b0) htl)
  clear h hu hc2
  by_cases hlen : (tl.length : Int) = s
  · have dl : ((tl.length : Int) != s) = false := by simp [hlen]
    cases hnd : nodesB s l tl with
    | true =>
      rw [hnd] at HN
      obtain ⟨hg, hr⟩ := nodesB_iff.1 hnd
      obtain ⟨n, rfl⟩ : ∃ n : Nat, s = (n : Int) := ⟨s.toNat, by have := hg.1; omega⟩
      have hn8 : n ≤ 8 := by have := hg.2.1; omega
      have hln : tl.length = n := by omega
      have HV : Hid (okG (P2.Good (n : Int) l ∧ EachS (n : Int).toNat tl) = ((dst tl).length == n)) := by
        show _ = _
        rw [Bool.eq_iff_iff, okG_iff, beq_iff_eq, Int.toNat_natCast]
        exact ⟨fun h => (each_dst hln hr).1 h.2, fun h => ⟨hg, (each_dst hln hr).2 h⟩⟩
      rw [HV.out]
      have HR := Lib.hid hr
      have hlt8 : tl.length ≤ 8 := by omega
      have HTK : Hid (tl.take tl.length = tl) := List.take_length
      clear hg hr hnd hlen hln
      go_enter Try.func54, Try.ntmps54
      obtain ⟨p0, p1, -, -⟩ := g0.two
      go_wp2_with fail
      refine HN.out.mono ?_
      rintro e w1 ⟨rfl, b1⟩
      have e1 := btrans b0 b1
      have g1 := g0.below b1 g0.lt
      have M1 := World.ownsMap_made (H := Unit) w1 Try.prog 3 (plainElem Try.prog 4)
      have hz1 := e1.size
      have g2 := g1.alloc (.map #[] 0)
      have hs1 := g1.lt
      have e2 : Below w.heap.size w (w1.alloc (.map #[] 0)) := e1.alloc hz1 _
      clear p0 p1 b0 b1 g0 g1
      go_wp2_with fail
      go_loopg [22] tl.length (fun g i wr => ∃ (k : Nat) (D : DataW Unit), k + g = tl.length ∧ i = .int .i64 (k : Int) ∧ wr.ownsMap Try.prog 3 (plainElem Try.prog 4) w1.heap.size k D ∧ MapI D (tl.take k) ∧ Blk wr w.heap.size 29 #[.int .i64 (n : Int), .slice A l.length c] ∧ Below w.heap.size w wr)
      case atStart => exact ⟨0, .map [], by omega, rfl, M1, by simpa using mapI_nil, g2, e2⟩
      case round =>
        clear M1 g2 e2
        obtain ⟨k, D, hkg, rfl, hown, hD, hgb, hB⟩ := hrel
        obtain ⟨p0, p1, -, -⟩ := hgb.two
        cases gk with
        | zero =>
          obtain rfl : k = tl.length := by omega
          rw [HTK.out] at hD
          have hln := hown.len Try.underlying107
          rw [hD.2.2] at hln
          have hdn : (((dst tl).length : Int) == (n : Int)) = ((dst tl).length == n) := by
            rw [Bool.eq_iff_iff, beq_iff_eq, beq_iff_eq]; omega
          have HDN := Lib.hid hdn
          clear hdn hD hown
          go_wp2_with fail
          go_ret
          exact ⟨ret_bool HDN.out, hB⟩
        | succ g3 =>
          have hlt : k < tl.length := by omega
          have hlt' : (k : Int) < (tl.length : Int) := by omega
          obtain ⟨x, hx⟩ : ∃ x, tl[k]? = some x := ⟨_, List.getElem?_eq_getElem hlt⟩
          obtain ⟨g, o, rfl, c0⟩ := HC.out k x hx
          have q0 := cell_keep c0 hB
          have hx0 := HR.out x (List.mem_of_getElem? hx)
          have hi64 : In64 x := by unfold In64; omega
          have HD := Lib.hid (hD.put hx hi64)
          have HK := Lib.hid (ikey hi64)
          have HG := Lib.hid hgb
          have hsz := hgb.lt
          have HBB := Lib.hid hB
          clear hx c0 hD hi64 hgb p0 p1 hB hx0
          go_wp2_with (at_mapUpdate; refine wpList_mapUpdate_own _ rfl _ _ _ 107 rfl 3 4 lawI Try.underlying107 _ w1.heap.size k _ rfl hown (by unfold maxLen; omega) _ _ _ rfl rfl HK.out _ [] (plainElem_bool Try.underlying4 true) ?_; intro w3 hown1 hgrow1)
          have hg3 := Lib.hid (HG.out.grown hgrow1 (by simp; omega))
          have hB3 : Below w.heap.size w w3 := HBB.out.grown hgrow1 HBB.out.size (fun j e => by simp at e; omega)
          clear hgrow1 q0
          go_roundg g3
          case measure => omega
          case rel => exact ⟨k + 1, _, by omega, by go_num, hown1, HD.out, hg3.out, hB3⟩
    | false =>
      rw [hnd] at HN
      have HNO := Lib.hid (okG_no (notEach_nodes hnd))
      clear hnd hlen
      go_enter Try.func54, Try.ntmps54
      obtain ⟨p0, p1, -, -⟩ := g0.two
      go_wp2_with fail
      refine HN.out.mono ?_
      rintro e w1 ⟨rfl, b1⟩
      have e1 := btrans b0 b1
      go_wp2_with fail
      go_ret
      exact ⟨ret_bool HNO.out.symm, e1⟩
  · have dl : ((tl.length : Int) != s) = true := by simp [hlen]
    have HNO := Lib.hid (okG_no (notEach_len (l := l) hlen))
    clear hlen HN
    go_enter Try.func54, Try.ntmps54
    obtain ⟨p0, p1, -, -⟩ := g0.two
    go_wp2_with fail
    go_ret
    exact ⟨ret_bool HNO.out.symm, b0⟩

set_option maxHeartbeats 1000000 in
theorem l2Each_any (n : Nat) (v u : Value) (l : List Ed) (tl : List Int) (w : World) (h : Edges w v l) (hu : Ints w u tl) (htl : tl.length ≤ 1048576) (hn8 : n ≤ 8) :
    Calls Try.prog 106 #[.agg #[.int .i64 (n : Int), v], u] w fun e w' => e = .returned (.bool (okG (EachS n tl))) ∧ Below w.heap.size w w' := by
  obtain ⟨A, c, rfl, -⟩ := h.form
  obtain ⟨A2, c2, rfl, -⟩ := hu.form
  have HU := Lib.hid hu
  have b0 : Below w.heap.size w (w.alloc (.cells #[.int .i64 (n : Int), .slice A l.length c] 29)) := (Below.refl _ _).alloc (Nat.le_refl _) _
  have g0 := Blk.new w 29 #[.int .i64 (n : Int), .slice A l.length c]
  have HH := Lib.hid (fun (x : Int) => l1Has_any _ tl x _ (hu.below b0) htl)
  clear h hu
  obtain ⟨p0, p1, -, -⟩ := g0.two
  go_enter Try.func106, Try.ntmps106
  go_wp2_with fail
  go_loop [5] (fun i => ∃ k : Nat, k ≤ n ∧ i = .int .i64 (k : Int) ∧ Hid (∀ j : Nat, j < k → (j : Int) ∈ tl)) (fun i => n - (intOf i).toNat)
  case atStart => exact ⟨0, by omega, rfl, fun j h => by omega⟩
  case round =>
    obtain ⟨k, hk, rfl, hin⟩ := hrel
    by_cases hlt : k < n
    · have hlt' : (k : Int) < (n : Int) := by omega
      have HHk := Lib.hid (HH.out (k : Int))
      by_cases hm : (k : Int) ∈ tl
      · have HK : Hid (∀ j : Nat, j < k + 1 → (j : Int) ∈ tl) := fun j hj => by
          by_cases e : j = k
          · subst e; exact hm
          · exact hin.out j (by omega)
        rw [show decide ((k : Int) ∈ tl) = true from decide_eq_true hm] at HHk
        clear hm
        go_wp2_with fail
        refine HHk.out.mono ?_
        rintro e w2 ⟨rfl, rfl⟩
        go_wp2_with fail
        go_round
        case rel => exact ⟨k + 1, by omega, by go_num, HK⟩
        case measure => simp [intOf]; omega
      · have HN : Hid (okG (EachS n tl) = false) := okG_no (fun h => hm (h.2 k hlt))
        rw [show decide ((k : Int) ∈ tl) = false from decide_eq_false hm] at HHk
        clear hm
        go_wp2_with fail
        refine HHk.out.mono ?_
        rintro e w2 ⟨rfl, rfl⟩
        go_wp2_with fail
        go_ret
        exact ⟨ret_bool HN.out.symm, b0⟩
    · have HV : Hid (((tl.length : Int) == (n : Int)) = okG (EachS n tl)) := by
        show _ = _
        rw [Bool.eq_iff_iff, beq_iff_eq, okG_iff]
        exact ⟨fun h => ⟨by omega, fun j hj => hin.out j (by omega)⟩, fun h => by have := h.1; omega⟩
      go_wp2_with fail
      go_ret
      exact ⟨ret_bool HV.out, b0⟩
end Go.Proofs.Ytphlpipbhaiijaa.each
