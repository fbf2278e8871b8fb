/- A queue: a slice of the call's own that is cut at its head and appended to at its end. It imports nothing of the program. -/
import Derived.Test.YtnmidgnkjpcpgaaWords
import Derived.Laws.AppendOwn
import Derived.Laws.CopyOwn
namespace Go.Proofs.Ytnmidgnkjpcpgaa.queue
open Go.RowKit words

theorem addr_add (g o j : Nat) : (⟨g, o, none⟩ : Addr).add j = ⟨g, o + j, none⟩ := by unfold Addr.add; split <;> simp_all

/-- a slice of n elements of one cell each, in a block from B on, wherever it begins in it -/
def Queue (w : World) (B : Nat) (t : TypeId) (v : Value) (n : Nat) (xs : List Value) : Prop :=
  ∃ g off cap cur, v = .slice (some ⟨g, off, none⟩) n cap ∧ B ≤ g ∧ w.heap[g]? = some (.cells cur t (0, 0)) ∧ n ≤ cap ∧ cap ≤ maxLen ∧ off + cap ≤ cur.size ∧ xs.length = n ∧ ∀ j u, xs[j]? = some u → cur[off + j]? = some u

section
variable {w w' : World} {B : Nat} {t : TypeId} {v : Value} {n : Nat} {xs : List Value}
theorem Queue.lt (h : Queue w B t v n xs) : ∀ k, v.ownBlock = some k → B ≤ k ∧ k < w.heap.size := by
  obtain ⟨g, off, cap, cur, rfl, hB, hg, _⟩ := h
  intro k hk
  simp [Value.ownBlock] at hk
  subst hk
  exact ⟨hB, (Array.getElem?_eq_some_iff.1 hg).1⟩
theorem Queue.kept {row : Option Nat} (h : Queue w B t v n xs) (hg : w.grownBy w' row) (hne : v.ownBlock ≠ row) : Queue w' B t v n xs := by
  obtain ⟨g, off, cap, cur, rfl, hB, hh, rest⟩ := h
  refine ⟨g, off, cap, cur, rfl, hB, ?_, rest⟩
  rw [hg.block g (Array.getElem?_eq_some_iff.1 hh).1 (by simpa [Value.ownBlock] using hne)]
  exact hh
theorem Queue.below (h : Queue w B t v n xs) (hb : Below w.heap.size w w') : Queue w' B t v n xs := h.kept (gof hb none) (by obtain ⟨g, off, cap, cur, rfl, _⟩ := h; simp [Value.ownBlock])
theorem Queue.start (w : World) (t : TypeId) (u : Value) : Queue (w.alloc (.cells #[u] t)) w.heap.size t (.slice (some ⟨w.heap.size, 0, none⟩) 1 1) 1 [u] :=
  ⟨_, 0, 1, #[u], rfl, Nat.le_refl _, Blk.new _ _ _, Nat.le_refl _, by unfold maxLen; omega, by simp, rfl, fun j u' h => by simpa using h⟩
theorem Queue.base (h : Queue w B t v n xs) {C : Nat} (hC : C ≤ B) : Queue w C t v n xs := by
  obtain ⟨g, off, cap, cur, rfl, hB, rest⟩ := h
  exact ⟨g, off, cap, cur, rfl, Nat.le_trans hC hB, rest⟩
/-- the head, and what is left behind it -/
theorem Queue.head {x : Value} (h : Queue w B t v (n + 1) (x :: xs)) : ∃ g off cap, v = .slice (some ⟨g, off, none⟩) (n + 1) (cap + 1) ∧ w.cell? ⟨g, off, none⟩ = some x ∧
    Queue w B t (.slice (some ⟨g, if cap = 0 then off else off + 1, none⟩) n cap) n xs := by
  obtain ⟨g, off, cap, cur, rfl, hB, hg, hn, hm, hf, hl, hc⟩ := h
  obtain ⟨c, rfl⟩ : ∃ c, cap = c + 1 := ⟨cap - 1, by omega⟩
  refine ⟨g, off, c, rfl, ?_, g, _, c, cur, rfl, hB, hg, by omega, by omega, ?_, by simpa using hl, fun j u hj => ?_⟩
  · have := hc 0 x rfl
    rw [cell_of_row w g off cur t (0, 0) hg]
    simpa using this
  · split <;> omega
  · have hjl := (List.getElem?_eq_some_iff.1 hj).1
    have hl' : xs.length = n := by simpa using hl
    rw [if_neg (by omega)]
    have := hc (j + 1) u (by simpa using hj)
    rw [show off + 1 + j = off + (j + 1) from by omega]
    exact this
theorem run_append_queue {P : Program} (t' ty : TypeId) (i : TypeInfo) (z : Value) (bytes : Nat) (ht : P.underlying t' = some (.slice t)) (hi : P.info? t = some i) (hz : i.zero = some z)
    (hsize : i.size = 1) (hby : i.bytes = bytes) (hzs : z.cells.size = 1) (h : Queue w B t v n xs) (a : Addr) (c : Nat) (u : Value) (ha : w.cell? a = some u) (h1 : u.oneCell' = true)
    (h63 : n + 1 ≤ maxLen) (hbytes : (n + 1) * bytes ≤ 140737488355328) (hB : B ≤ w.heap.size) :
    ∃ v' w', (Builtin.append_ #[t', t'] ty #[v, .slice (some a) 1 c]).run P w = .ok v' w' ∧ Queue w' B t v' (n + 1) (xs ++ [u]) ∧ w.grownBy w' v.ownBlock ∧ (v'.ownBlock = v.ownBlock ∨ v'.ownBlock = some w.heap.size) := by
  obtain ⟨g, off, cap, cur, rfl, hBg, hg, hn, hm, hf, hl, hc⟩ := h
  have hnew : ∀ (j : Nat) (v : Value), [u][j]? = some v → w.cell? (a.add j) = some v := fun j v hj => by
    match j, hj with
    | 0, hj =>
      cases hj
      rw [show a.add 0 = a from by unfold Addr.add; split <;> simp_all]
      exact ha
  by_cases hroom : n + 1 ≤ cap
  · have hfc := run_firstCells_some (P := P) w i.size 1 a 1 c [u] (by rw [hsize]; rfl) hnew
    have hst := run_storeCells_at P g (off + n) t [u] 0 cur w hg (by simp; omega) (fun x hx => by simp at hx; subst hx; exact h1)
    simp only [Nat.add_zero] at hst
    rw [hsize] at hfc
    refine ⟨.slice (some ⟨g, off, none⟩) (n + 1) cap, w.setRow g (cur.toList.take (off + n) ++ [u] ++ cur.toList.drop (off + n + 1)).toArray, ?_, ?_, ?_, .inl rfl⟩
    · simp [Builtin.append_, run_underlying ht, sizeOf, typeInfo, hi, Builtin.lenOf, hroom, hfc, addr_add, hsize]
      rw [hst]
      simp
    · refine ⟨g, off, cap, _, rfl, hBg, setRow_heap w g cur _ t (0, 0) hg, hroom, hm, ?_, by simp [hl], ?_⟩
      · simp; omega
      · intro j x hj
        have hjl := (List.getElem?_eq_some_iff.1 hj).1
        simp [hl] at hjl
        simp only [List.getElem?_toArray]
        by_cases e : j = n
        · subst e
          rw [List.getElem?_append_right (by omega), hl, Nat.sub_self] at hj
          rw [List.append_assoc, List.getElem?_append_right (by simp; omega)]
          simp
          rw [show off + j - min (off + j) cur.size = 0 from by omega]
          simpa using hj
        · rw [List.getElem?_append_left (by omega)] at hj
          have := hc j x hj
          rw [List.append_assoc, List.getElem?_append_left (by simp; omega), List.getElem?_take_of_lt (by omega)]
          simpa using this
    · exact ⟨rfl, rfl, rfl, by simp [World.setRow], fun k hk hne => setRow_other w g k _ (fun e => hne (by simp [Value.ownBlock, e]))⟩
  · have hol : xs.length = n * i.size := by rw [hsize, hl, Nat.mul_one]
    have holds : ∀ j x, xs[j]? = some x → w.cell? ((⟨g, off, none⟩ : Addr).add j) = some x := fun j x hj => by
      rw [addr_add, cell_of_row w g _ cur t (0, 0) hg]; exact hc j x hj
    have hr := run_append_grow (P := P) w t' ty t i z ht hi hz ⟨g, off, none⟩ n cap xs hol holds a 1 c [u] (by rw [hsize]; rfl) hnew (by omega) (by unfold maxLen at h63; omega) (growslice_fits (by omega) (by rw [hby]; exact hbytes))
    refine ⟨_, _, hr, ?_, ?_, .inr rfl⟩
    · refine ⟨w.heap.size, 0, _, _, rfl, hB, Blk.new _ _ _, grownCap_ge w _ _ _, grownCap_le_maxLen w _ _ _ h63, ?_, by simp [hl], ?_⟩
      · have := grownCap_ge w (n + 1) cap t
        simp [size_zeroCells, hzs, hl]; omega
      · intro j x hj
        have hjl := (List.getElem?_eq_some_iff.1 hj).1
        rw [Nat.zero_add, Array.getElem?_append_left (by simpa using hjl)]
        simpa using hj
    · exact ⟨rfl, rfl, rfl, by simp, fun k hk _ => Below.heap_alloc w.drew _ k hk⟩
end
theorem wpList_append_queue {P : Program} {w : World} {ops : Array Oper} {rest : List Oper} {o : Oper} {a : Act} {Q : Exit → Act → World → Prop} (hgd : o.guard = none) (s x : Operand) (t' t : TypeId)
    (ho : o.op = .call { callee := .builtin .append, args := #[s, x], argTypes := #[t', t'] })
    (B : Nat) (i : TypeInfo) (z : Value) (bytes : Nat) (ht : P.underlying t' = some (.slice t)) (hi : P.info? t = some i) (hz : i.zero = some z) (hsize : i.size = 1) (hby : i.bytes = bytes) (hzs : z.cells.size = 1)
    (v : Value) (n : Nat) (xs : List Value) (hs : a.eval s = v) (h : Queue w B t v n xs) (ad : Addr) (c : Nat) (u : Value) (hx : a.eval x = .slice (some ad) 1 c) (ha : w.cell? ad = some u) (h1 : u.oneCell' = true)
    (h63 : n + 1 ≤ maxLen) (hbytes : (n + 1) * bytes ≤ 140737488355328) (hB : B ≤ w.heap.size)
    (hk : ∀ v' w', Queue w' B t v' (n + 1) (xs ++ [u]) → w.grownBy w' v.ownBlock → (v'.ownBlock = v.ownBlock ∨ v'.ownBlock = some w.heap.size) → wpList P ops Q rest (a.put o.dst v') w') : wpList P ops Q (o :: rest) a w := by
  refine wpList_plain hgd fun K hK => ?_
  obtain ⟨v', w', hr, h2, h3, h4⟩ := run_append_queue (P := P) t' o.type i z bytes ht hi hz hsize hby hzs h ad c u ha h1 h63 hbytes hB
  unfold Oper.wp execOp
  simp only [ho, resolve, invoke, builtin, Sem.run_bind, Sem.run_pure, Result.andThen_ok, List.map_toArray, List.map_cons, List.map_nil, hs, hx, hr]
  exact hK _ _ (hk v' w' h2 h3 h4)
end Go.Proofs.Ytnmidgnkjpcpgaa.queue
