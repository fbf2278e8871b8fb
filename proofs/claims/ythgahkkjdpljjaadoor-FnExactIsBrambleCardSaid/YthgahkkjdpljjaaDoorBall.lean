/- The contracts of the model's l1Has, l1Put and l2Ball. -/
import Derived.Test.YthgahkkjdpljjaaDoorCov
import Derived.Test.YthgahkkjdpljjaaDoorNeighS
import Derived.Test.YthgahkkjdpljjaaDoorApp
namespace Go.Proofs.YthgahkkjdpljjaaDoor.balls
open Go.RowKit P2 words edges ints good adjs fns sets apps covs neigh
set_option linter.unusedVariables false

set_option maxHeartbeats 1000000 in
theorem l1Has_any (u : Value) (xs : List Int) (x : Int) (w : World) (hu : Ints w u xs) (hxl : xs.length ≤ 1048576) :
    Calls Tryd.prog 37 #[u, .int .i64 x] w fun e w' => e = .returned (.bool (decide (x ∈ xs))) ∧ w = w' := by
  obtain ⟨A2, c2, rfl, hc⟩ := hu.form
  have HC := Lib.hid hc
  clear hu hc
  go_enter Tryd.func37, Tryd.ntmps37
  go_wp2_with fail
  go_loop [5] (fun i => ∃ k : Nat, k ≤ xs.length ∧ i = .int .i64 (k : Int) ∧ Hid (∀ j y, j < k → xs[j]? = some y → y ≠ x)) (fun i => xs.length - (intOf i).toNat)
  case atStart => exact ⟨0, Nat.zero_le _, rfl, fun j e h => by omega⟩
  case round =>
    obtain ⟨k, hk, rfl, hno⟩ := hrel
    by_cases hlt : k < xs.length
    · obtain ⟨y, hy⟩ : ∃ y, xs[k]? = some y := ⟨_, List.getElem?_eq_getElem hlt⟩
      obtain ⟨g, o, rfl, c0⟩ := HC.out k y hy
      have hlt' : (k : Int) < (xs.length : Int) := by omega
      by_cases hyx : y = x
      · have HN : Hid (decide (x ∈ xs) = true) := by show _ = _; rw [decide_eq_true_iff, ← hyx]; exact List.mem_of_getElem? hy
        have d0 : (y == x) = true := by simpa using hyx
        clear hy hyx
        go_wp2_with fail
        go_ret
        exact ⟨ret_bool HN.out.symm, rfl⟩
      · have HK : Hid (∀ j y, j < k + 1 → xs[j]? = some y → y ≠ x) := fun j z hj hz => by
          by_cases e : j = k
          · subst e; rw [hy] at hz; cases hz; exact hyx
          · exact hno.out j z (by omega) hz
        have d0 : (y == x) = false := by simpa using hyx
        clear hy hyx
        go_wp2_with fail
        go_round
        case rel => exact ⟨k + 1, by omega, by go_num, HK⟩
        case measure => simp [intOf]; omega
    · have HN : Hid (decide (x ∈ xs) = false) := by
        show _ = _
        rw [decide_eq_false_iff_not]
        intro hx
        obtain ⟨j, hj⟩ := List.getElem?_of_mem hx
        exact hno.out j x (by have := (List.getElem?_eq_some_iff.1 hj).1; omega) hj rfl
      go_wp2_with fail
      go_ret
      exact ⟨ret_bool HN.out.symm, rfl⟩

/-- L has x and what l has, ascending -/
def PutI (l : List Int) (x : Int) (L : List Int) : Prop := Asc L ∧ (∀ y, y ∈ L ↔ y = x ∨ y ∈ l) ∧ L.length ≤ l.length + 1
theorem PutI.same {l : List Int} {x : Int} (ha : Asc l) (hx : x ∈ l) : PutI l x l :=
  ⟨ha, fun y => ⟨.inr, fun h => by rcases h with rfl | h; exact hx; exact h⟩, by omega⟩
theorem PutI.new {l : List Int} {x : Int} {k : Nat} (hk : k ≤ l.length) (ha : Asc l) (h1 : ∀ j y, j < k → l[j]? = some y → y < x) (h2 : ∀ y, l[k]? = some y → x < y) : PutI l x (l.take k ++ x :: l.drop k) := by
  have hd : ∀ y ∈ l.drop k, x < y := fun y hy => by
    obtain ⟨j, hj⟩ := List.getElem?_of_mem hy
    rw [List.getElem?_drop] at hj
    rcases Nat.eq_zero_or_pos j with rfl | hj0
    · exact h2 y hj
    · obtain ⟨z, hz⟩ : ∃ z, l[k]? = some z := ⟨_, List.getElem?_eq_getElem (by have := (List.getElem?_eq_some_iff.1 hj).1; omega)⟩
      have := h2 z hz
      have := ha.at_ (by omega) hz hj
      omega
  have ht : ∀ y ∈ l.take k, y < x := fun y hy => by
    obtain ⟨j, hj⟩ := List.getElem?_of_mem hy
    rw [List.getElem?_take] at hj
    split at hj
    · rename_i hjk; exact h1 j y hjk hj
    · cases hj
  refine ⟨?_, fun y => ?_, by simp; omega⟩
  · unfold Asc at *
    rw [List.pairwise_append, List.pairwise_cons]
    refine ⟨ha.sublist (List.take_sublist _ _), ⟨hd, ha.sublist (List.drop_sublist _ _)⟩, fun a hta b hb => ?_⟩
    have := ht a hta
    rcases List.mem_cons.1 hb with rfl | hb
    · exact this
    · have := hd b hb; omega
  · rw [List.mem_append, List.mem_cons]
    constructor
    · rintro (h | h | h)
      · exact .inr (List.mem_of_mem_take h)
      · exact .inl h
      · exact .inr (List.mem_of_mem_drop h)
    · rintro (h | h)
      · exact .inr (.inl h)
      · rw [← List.take_append_drop k l, List.mem_append] at h
        rcases h with h | h
        · exact .inl h
        · exact .inr (.inr h)

theorem one_reads {w : World} {g : Nat} {t : TypeId} {a : Int} (h : Blk w g t #[.int .i64 a]) : Reads w 1 (.slice (some ⟨g, 0, none⟩) 1 1) 1 (cellsI [a]) := by
  refine ⟨_, _, rfl, fun _ => ⟨g, 0, rfl, by omega, fun j u hu => ?_⟩⟩
  rw [Nat.zero_add]
  refine (h.cell j).trans ?_
  rw [← hu]
  match j with
  | 0 => rfl
  | j + 1 => simp [cellsI]
theorem rd1_some {W : World} {g o c k n : Nat} {xs : List Value} (h : Reads W 1 (.slice (if c = k then some ⟨g, o, none⟩ else (some (⟨g, o, none⟩ : Addr)).map (·.add (k * 1))) (n - k) (c - k)) (n - k) xs) :
    Reads W 1 (.slice (if c = k then some ⟨g, o, none⟩ else some ⟨g, o + k, none⟩) (n - k) (c - k)) (n - k) xs := by
  simpa [apps.addr_add] using h

set_option maxHeartbeats 2000000 in
set_option maxRecDepth 100000 in
theorem l1Put_both (v : Value) (l : List Int) (x : Int) (w : World) (h : Ints w v l) (hl : l.length ≤ 1048576) (ha : Asc l) :
    Calls Tryd.prog 39 #[v, .int .i64 x] w fun e w' => ∃ L A c, e = .returned (.slice A L.length c) ∧ PutI l x L ∧ Reads w' 1 (.slice A L.length c) L.length (cellsI L) ∧ Below w.heap.size w w' ∧
      ((w' = w ∧ Value.slice A L.length c = v ∧ L = l) ∨ w'.ownsRow w.heap.size 3 1 (.slice A L.length c) L.length (cellsI L)) := by
  obtain ⟨i0, hi, hz0, hz1, hz2⟩ := info_parts infoInt
  obtain ⟨A, c, rfl, hc⟩ := h.form
  have H := Lib.hid h
  have HC := Lib.hid hc
  have HA := Lib.hid ha
  have hcap : l.length ≤ c := by
    rcases Nat.eq_zero_or_pos l.length with h0 | h0
    · omega
    · obtain ⟨A', c', e, hx⟩ := h
      cases e
      exact (hx h0).choose_spec.choose_spec.2.1
  clear h hc ha
  go_enter Tryd.func39, Tryd.ntmps39
  go_wp2_with fail
  go_loop [5] (fun i => ∃ k : Nat, k ≤ l.length ∧ i = .int .i64 (k : Int) ∧ Hid (∀ j y, j < k → l[j]? = some y → y < x)) (fun i => l.length - (intOf i).toNat)
  case atStart => exact ⟨0, by omega, rfl, fun j x hj => by omega⟩
  case round =>
    obtain ⟨k, hkl, rfl, hlex⟩ := hrel
    by_cases hgo : ∃ y, l[k]? = some y ∧ y < x
    · obtain ⟨y, hy, hL⟩ := hgo
      have hlt := (List.getElem?_eq_some_iff.1 hy).1
      obtain ⟨g, o, rfl, c0⟩ := HC.out k y hy
      have hlt' : (k : Int) < (l.length : Int) := by omega
      have HK : Hid (∀ j y, j < k + 1 → l[j]? = some y → y < x) := fun j z hj hz => by
        by_cases e : j = k
        · subst e; rw [hy] at hz; cases hz; exact hL
        · exact hlex.out j z (by omega) hz
      have d0 : decide (y < x) = true := by simpa using hL
      clear hy hL
      go_wp2_with fail
      go_round
      case rel => exact ⟨k + 1, by omega, by go_num, HK⟩
      case measure => simp [intOf]; omega
    · by_cases hfound : ∃ y, l[k]? = some y ∧ y = x
      · obtain ⟨y, hy, hL⟩ := hfound
        have hlt := (List.getElem?_eq_some_iff.1 hy).1
        obtain ⟨g, o, rfl, c0⟩ := HC.out k y hy
        have hlt' : (k : Int) < (l.length : Int) := by omega
        have HP : Hid (PutI l x l) := PutI.same HA.out (hL ▸ List.mem_of_getElem? hy)
        have d0 : decide (y < x) = false := by rw [decide_eq_false_iff_not]; omega
        have d1 : (y == x) = true := by simpa using hL
        clear hy hL hgo
        go_wp2_with fail
        go_ret
        exact ⟨l, _, _, rfl, HP.out, H.out, Below.refl _ _, .inl ⟨rfl, by simp, rfl⟩⟩
      · have HP : Hid (PutI l x (l.take k ++ x :: l.drop k)) := PutI.new hkl HA.out hlex.out (fun y hy => by
          have h1 : ¬ y < x := fun h => hgo ⟨y, hy, h⟩
          have h2 : ¬ y = x := fun h => hfound ⟨y, hy, h⟩
          omega)
        have HR1 := Lib.hid (fun y (hy : l[k]? = some y) => (⟨fun h => hgo ⟨y, hy, h⟩, fun h => hfound ⟨y, hy, h⟩⟩ : ¬ y < x ∧ ¬ y = x))
        clear hgo hfound
        by_cases hlt : k < l.length
        all_goals
          (first
            | (have hlt' : (k : Int) < (l.length : Int) := by omega
               obtain ⟨y, hy⟩ : ∃ y, l[k]? = some y := ⟨_, List.getElem?_eq_getElem hlt⟩
               obtain ⟨g, o, rfl, c0⟩ := HC.out k y hy
               have d0 : decide (y < x) = false := decide_eq_false (HR1.out y hy).1
               have d1 : (y == x) = false := by simpa using (HR1.out y hy).2
               clear hy
               go_wp2_with fail
               clear c0)
            | (have hkz : ¬ ((k : Int) < (l.length : Int)) := by omega
               have dk : decide ((k : Int) < (l.length : Int)) = false := by simpa using hkz
               have dk' : decide (k < l.length) = false := by simpa using hlt
               go_wp2_with fail))
          have B5 := Below.refl w.heap.size w
          have hkc : k ≤ c := by omega
          have RT := Lib.hid (fun (W : World) (hb : Below w.heap.size w W) => by have := Reads.take (c' := c) (H.out.below hb) hkl hkc; rw [cellsI_take] at this; exact this)
          have RD := Lib.hid (fun (W : World) (hb : Below w.heap.size w W) => by have := Reads.drop (H.out.below hb) hkl; rw [cellsI_drop] at this; exact this)
          have LT : Hid ((cellsI (l.take k)).length = k * 1) := by show _ = _; rw [cellsI_len, List.length_take, Nat.min_eq_left hkl]
          have LD : Hid ((cellsI (l.drop k)).length = (l.length - k) * 1) := by show _ = _; rw [cellsI_len, List.length_drop]
          have F1 := Lib.hid (show ((w.alloc (.cells #[] 3)).drew).ownsRow w.heap.size 3 1 (.slice (some ⟨w.heap.size, 0, none⟩) 0 0) 0 [] from own_new0 w.drew 3 1)
          have F2 := Lib.hid (show (((w.alloc (.cells #[] 3)).alloc (.cells #[.int .i64 x] 3)).drew).ownsRow w.heap.size 3 1 (.slice (some ⟨w.heap.size, 0, none⟩) 0 0) 0 [] from (own_new0 w.drew 3 1).alloc _)
          have F3 := Lib.hid (show (((w.alloc (.cells #[.int .i64 x] 3)).alloc (.cells #[] 3)).drew).ownsRow w.heap.size 3 1 (.slice (some ⟨w.heap.size + 1, 0, none⟩) 0 0) 0 [] from by
            have t := own_new0 (w.alloc (.cells #[.int .i64 x] 3)) 3 1
            rw [World.size_alloc] at t
            exact own_base t (by omega))
          have B1 := Lib.hid (show Below w.heap.size w ((w.alloc (.cells #[] 3)).drew) from (B5.alloc (Nat.le_refl _) _).drew)
          have B2 := Lib.hid (show Below w.heap.size w (((w.alloc (.cells #[] 3)).alloc (.cells #[.int .i64 x] 3)).drew) from ((B5.alloc (Nat.le_refl _) _).alloc (by simp) _).drew)
          have B3 := Lib.hid (show Below w.heap.size w (((w.alloc (.cells #[.int .i64 x] 3)).alloc (.cells #[] 3)).drew) from ((B5.alloc (Nat.le_refl _) _).alloc (by simp) _).drew)
          have Y2 := Lib.hid (show Blk (((w.alloc (.cells #[] 3)).alloc (.cells #[.int .i64 x] 3)).drew) (w.heap.size + 1) 3 #[.int .i64 x] from by
            have t := (Blk.new (w.alloc (.cells #[] 3)) 3 #[.int .i64 x]).drewN 1
            rw [World.size_alloc] at t; exact t)
          have Y3 := Lib.hid (show Blk (((w.alloc (.cells #[.int .i64 x] 3)).alloc (.cells #[] 3)).drew) w.heap.size 3 #[.int .i64 x] from ((Blk.new w 3 #[.int .i64 x]).alloc (.cells #[] 3)).drewN 1)
          clear B5
          go_region_law (first
            | ((first
                  | (refine step_append_any _ rfl (.tmp 33) (.tmp 36) 38 rfl w.heap.size 3 i0 (.int .i64 0) 1 8 Tryd.underlying38 hi hz0 hz1 hz2 rfl (by decide) (.slice (some ⟨w.heap.size, 0, none⟩) 0 0) 0 [] rfl ?_ (.slice A k c) k (cellsI (l.take k)) rfl ?_ LT.out (oneI _) (by unfold maxLen; omega) (by omega) (by simp <;> omega) ?_)
                  | (refine step_append_any _ rfl (.tmp 33) (.tmp 36) 38 rfl w.heap.size 3 i0 (.int .i64 0) 1 8 Tryd.underlying38 hi hz0 hz1 hz2 rfl (by decide) (.slice (some ⟨w.heap.size + 1, 0, none⟩) 0 0) 0 [] rfl ?_ (.slice A k c) k (cellsI (l.take k)) rfl ?_ LT.out (oneI _) (by unfold maxLen; omega) (by omega) (by simp; omega) ?_)
                  | (refine step_append_any _ rfl (.tmp 33) (.tmp 36) 38 rfl w.heap.size 3 i0 (.int .i64 0) 1 8 Tryd.underlying38 hi hz0 hz1 hz2 rfl (by decide) (.slice (some ⟨w.heap.size, 0, none⟩) 0 0) 0 [] rfl ?_ (.slice (some ⟨g, o, none⟩) k c) k (cellsI (l.take k)) rfl ?_ LT.out (oneI _) (by unfold maxLen; omega) (by omega) (by simp <;> omega) ?_)
                  | (refine step_append_any _ rfl (.tmp 33) (.tmp 36) 38 rfl w.heap.size 3 i0 (.int .i64 0) 1 8 Tryd.underlying38 hi hz0 hz1 hz2 rfl (by decide) (.slice (some ⟨w.heap.size + 1, 0, none⟩) 0 0) 0 [] rfl ?_ (.slice (some ⟨g, o, none⟩) k c) k (cellsI (l.take k)) rfl ?_ LT.out (oneI _) (by unfold maxLen; omega) (by omega) (by simp; omega) ?_))
               (first | with_reducible exact F1.out | with_reducible exact F2.out | with_reducible exact F3.out)
               refine RT.out _ ?_
               (first | with_reducible exact B1.out | with_reducible exact B2.out | with_reducible exact B3.out)
               intro v1 w1 o1 g1
               rw [Nat.zero_add, List.nil_append] at o1
               (first
                 | (have e1 := B1.out.grown g1 (by simp) (fun k hk => by simp [Value.ownBlock] at hk; omega))
                 | (have e1 := B2.out.grown g1 (by simp; omega) (fun k hk => by simp [Value.ownBlock] at hk; omega); have y1 := Y2.out.grown g1 (by simp [Value.ownBlock]))
                 | (have e1 := B3.out.grown g1 (by simp; omega) (fun k hk => by simp [Value.ownBlock] at hk; omega); have y1 := Y3.out.grown g1 (by simp [Value.ownBlock])))
               have s1 := e1.size)
            | ((first
                  | (refine step_append_any _ rfl (.tmp 37) (.tmp 39) 38 rfl w.heap.size 3 i0 (.int .i64 0) 1 8 Tryd.underlying38 hi hz0 hz1 hz2 rfl (by decide) v1 k (cellsI (l.take k)) rfl ?_ (.slice (some ⟨w1.heap.size, 0, none⟩) 1 1) 1 (cellsI [x]) rfl ?_ rfl (oneI _) (by unfold maxLen; omega) (by omega) ?_ ?_)
                  | (refine step_append_any _ rfl (.tmp 37) (.tmp 39) 38 rfl w.heap.size 3 i0 (.int .i64 0) 1 8 Tryd.underlying38 hi hz0 hz1 hz2 rfl (by decide) v1 k (cellsI (l.take k)) rfl ?_ (.slice (some ⟨w.heap.size + 1, 0, none⟩) 1 1) 1 (cellsI [x]) rfl ?_ rfl (oneI _) (by unfold maxLen; omega) (by omega) ?_ ?_)
                  | (refine step_append_any _ rfl (.tmp 37) (.tmp 39) 38 rfl w.heap.size 3 i0 (.int .i64 0) 1 8 Tryd.underlying38 hi hz0 hz1 hz2 rfl (by decide) v1 k (cellsI (l.take k)) rfl ?_ (.slice (some ⟨w.heap.size, 0, none⟩) 1 1) 1 (cellsI [x]) rfl ?_ rfl (oneI _) (by unfold maxLen; omega) (by omega) ?_ ?_))
               (first | with_reducible exact o1 | with_reducible exact o1.alloc _)
               (first | with_reducible exact one_reads y1 | with_reducible exact one_reads (Blk.new w1 _ _))
               (first | with_reducible exact s1 | with_reducible exact Nat.le_trans s1 (by simp))
               intro v2 w2 o2 g2
               (first
                 | have e2 := e1.grown g2 s1 (fun q hq => (o1.lt q hq).1)
                 | have e2 := (e1.alloc s1 _).grown g2 (Nat.le_trans s1 (by simp)) (fun q hq => (o1.lt q hq).1))
               have s2 := e2.size)
            | ((first
                  | (refine step_append_any _ rfl (.tmp 40) (.tmp 43) 38 rfl w.heap.size 3 i0 (.int .i64 0) 1 8 Tryd.underlying38 hi hz0 hz1 hz2 rfl (by decide) v2 (k + 1) (cellsI (l.take k) ++ cellsI [x]) rfl ?_ (.slice (if c = k then some ⟨g, o, none⟩ else some ⟨g, o + k, none⟩) (l.length - k) (c - k)) (l.length - k) (cellsI (l.drop k)) rfl ?_ LD.out (oneI _) (by unfold maxLen; omega) (by omega) s2 ?_)
                  | (refine step_append_any _ rfl (.tmp 40) (.tmp 43) 38 rfl w.heap.size 3 i0 (.int .i64 0) 1 8 Tryd.underlying38 hi hz0 hz1 hz2 rfl (by decide) v2 (k + 1) (cellsI (l.take k) ++ cellsI [x]) rfl ?_ (.slice (if c = k then A else Option.map (fun x => x.add k) A) (l.length - k) (c - k)) (l.length - k) (cellsI (l.drop k)) rfl ?_ LD.out (oneI _) (by unfold maxLen; omega) (by omega) s2 ?_))
               with_reducible exact o2
               (first | with_reducible exact rd1_some (RD.out _ e2) | exact (by simpa using RD.out _ e2))
               intro v3 w3 o3 g3
               have e3 := e2.grown g3 s2 (fun q hq => (o2.lt q hq).1)))
          all_goals
            have hw3 : w3.ownsRow w.heap.size 3 1 v3 (l.take k ++ x :: l.drop k).length (cellsI (l.take k ++ x :: l.drop k)) := by
              have e1 : (l.take k ++ x :: l.drop k).length = k + 1 + (l.length - k) := by
                rw [List.length_append, List.length_cons, List.length_take, List.length_drop, Nat.min_eq_left hkl]; omega
              have e2 : cellsI (l.take k ++ x :: l.drop k) = cellsI (l.take k) ++ cellsI [x] ++ cellsI (l.drop k) := by simp [cellsI]
              rw [e1, e2]; exact o3
            generalize hn : (l.take k ++ x :: l.drop k).length = n3 at hw3
            obtain ⟨A3, c3, rfl⟩ := own_form hw3
            clear o3 g3
            go_wp2_with fail
            all_goals (go_ret; subst hn; exact ⟨_, A3, c3, rfl, HP.out, Reads.of_own hw3, e3, .inr hw3⟩)

theorem l1Put_any (v : Value) (l : List Int) (x : Int) (w : World) (h : Ints w v l) (hl : l.length ≤ 1048576) (ha : Asc l) :
    Calls Tryd.prog 39 #[v, .int .i64 x] w fun e w' => ∃ L A c, e = .returned (.slice A L.length c) ∧ PutI l x L ∧ Reads w' 1 (.slice A L.length c) L.length (cellsI L) ∧ Below w.heap.size w w' :=
  (l1Put_both v l x w h hl ha).mono fun _ _ ⟨L, A, c, h1, h2, h3, h4, _⟩ => ⟨L, A, c, h1, h2, h3, h4⟩
/-- a row of the call's own becomes one -/
theorem l1Put_own (v : Value) (l : List Int) (x : Int) (w : World) (B : Nat) (h : w.ownsRow B 3 1 v l.length (cellsI l)) (hB : B ≤ w.heap.size) (hl : l.length ≤ 1048576) (ha : Asc l) :
    Calls Tryd.prog 39 #[v, .int .i64 x] w fun e w' => ∃ L A c, e = .returned (.slice A L.length c) ∧ PutI l x L ∧ w'.ownsRow B 3 1 (.slice A L.length c) L.length (cellsI L) ∧ Below w.heap.size w w' :=
  (l1Put_both v l x w (Reads.of_own h) hl ha).mono fun _ _ ⟨L, A, c, h1, h2, h3, h4, h5⟩ => ⟨L, A, c, h1, h2, by
    rcases h5 with ⟨rfl, e, rfl⟩ | h5
    · rw [e]; exact h
    · exact own_base h5 hB, h4⟩
theorem ball_is {n : Nat} {l : List Ed} {x : Int} {L : List Int} (h : PutI (nw (fun y => adj l x y) n) x L) (hx : 0 ≤ x ∧ x < (n : Int)) : L = nw (ballB l x.toNat) n :=
  asc_ext h.1 (nw_asc _ _) fun e => by
    rw [h.2.1 e, mem_nw, mem_nw]
    have hxx : ((x.toNat : Nat) : Int) = x := by omega
    unfold ballB
    rw [hxx]
    constructor
    · rintro (rfl | ⟨j, hj, hp, rfl⟩)
      · exact ⟨e.toNat, by omega, by simp, by omega⟩
      · exact ⟨j, hj, by simp [hp], rfl⟩
    · rintro ⟨j, hj, hp, rfl⟩
      rcases Bool.or_eq_true_iff.1 hp with h1 | h1
      · exact .inl (by have := of_decide_eq_true h1; omega)
      · exact .inr ⟨j, hj, h1, rfl⟩
end Go.Proofs.YthgahkkjdpljjaaDoor.balls
