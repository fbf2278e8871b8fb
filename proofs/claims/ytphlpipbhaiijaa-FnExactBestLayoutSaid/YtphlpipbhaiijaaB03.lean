/- The contracts of NeighborsOf: of the program and of the model. -/
import Derived.Test.YtphlpipbhaiijaaB02
import Derived.Laws.EntriesVeiled
import Derived.Test.YtphlpipbhaiijaaB01
import Derived.Deep.RegionLaw
namespace Go.Proofs.Ytphlpipbhaiijaa.neigh
open Go.RowKit P2 words edges ints good near adjs fns

theorem ret2 {a b c d : Value} (h : a = c) (h2 : b = d) : Ending.returned (.tuple #[a, b]) = .returned (.tuple #[c, d]) := by rw [h, h2]
theorem in64_small {x : Int} (h : -100 ≤ x) (h2 : x ≤ 100) : In64 x := by unfold In64; omega

/-- a variable holds the function value of the neighbors by a list of edges -/
def NearV (w : World) (b : Nat) (l : List Ed) : Prop := ∃ c, w.cell? ⟨b, 0, none⟩ = some (.func (.func 159) #[] #[.pointer (some ⟨c, 0, none⟩)]) ∧ NearIs w c l
theorem NearV.below {w w' : World} {b : Nat} {l : List Ed} (h : NearV w b l) (hb : Below w.heap.size w w') : NearV w' b l := by
  obtain ⟨c, h1, h2⟩ := h
  exact ⟨c, (hb.cell (p := ⟨b, 0, none⟩) (World.block_lt_of_cell? w (a := ⟨b, 0, none⟩) h1)).trans h1, h2.below hb⟩
theorem cell_keep {w w' : World} {b o : Nat} {v : Value} (h : w.cell? ⟨b, o, none⟩ = some v) (hb : Below w.heap.size w w') : w'.cell? ⟨b, o, none⟩ = some v :=
  (hb.cell (p := ⟨b, o, none⟩) (World.block_lt_of_cell? w (a := ⟨b, o, none⟩) h)).trans h

end Go.Proofs.Ytphlpipbhaiijaa.neigh

/- The contracts of the model's l2Neighbors and NeighborsOf. -/
namespace Go.Proofs.Ytphlpipbhaiijaa.neigh
open Go.RowKit P2 words edges ints good near adjs fns

set_option maxHeartbeats 1000000 in
theorem l2Neighbors_any (n : Nat) (x : Int) (v : Value) (l : List Ed) (w : World) (h : Edges w v l) (hl : l.length ≤ 1048576) (hn : n ≤ 8) :
    Calls Try.prog 130 #[.agg #[.int .i64 (n : Int), v], .int .i64 x] w fun e w' => ∃ A c, e = .returned (.slice A (nw (fun y => adj l x y) n).length c) ∧
      w'.ownsRow w.heap.size 3 1 (.slice A (nw (fun y => adj l x y) n).length c) (nw (fun y => adj l x y) n).length (cellsI (nw (fun y => adj l x y) n)) ∧ Below w.heap.size w w' := by
  obtain ⟨i0, hi, hz0, hz1, hz2⟩ := info_parts infoInt
  obtain ⟨A, c, rfl, -⟩ := h.form
  have H := Lib.hid h
  have B0 : Below w.heap.size w ((w.alloc (.cells #[.int .i64 (n : Int), .slice A l.length c] 29)).alloc (.cells #[] 3)) := ((Below.refl _ _).alloc (Nat.le_refl _) _).alloc (by simp) _
  have G0 := (Blk.new w 29 #[.int .i64 (n : Int), .slice A l.length c]).alloc (.cells #[] 3)
  have O0 := own_new0 (w.alloc (.cells #[.int .i64 (n : Int), .slice A l.length c] 29)) 3 1
  rw [World.size_alloc] at O0
  have HB0 := Lib.hid B0
  have HG0 := Lib.hid G0
  have HO0 := Lib.hid O0
  clear h B0 G0 O0
  go_enter Try.func130, Try.ntmps130
  go_wp2_with fail
  go_loopw [5, 6] (fun s i wr => ∃ k : Nat, k ≤ n ∧ i = .int .i64 (k : Int) ∧ wr.ownsRow (w.heap.size + 1) 3 1 s (nw (fun y => adj l x y) k).length (cellsI (nw (fun y => adj l x y) k)) ∧ Blk wr w.heap.size 29 #[.int .i64 (n : Int), .slice A l.length c] ∧ Below w.heap.size w wr)
    (fun _ i _ => n - (intOf i).toNat)
  case atStart => exact ⟨0, Nat.zero_le _, rfl, HO0.out, HG0.out, HB0.out⟩
  case round =>
    obtain ⟨k, hk, rfl, hrow, hbk, hB⟩ := hrel
    have hlen := nw_len (fun y => adj l x y) k
    obtain ⟨p0, p1, -, -⟩ := hbk.two
    have hsz := hbk.lt
    by_cases hlt : k < n
    · have hlt' : (k : Int) < (n : Int) := by omega
      have HP := Lib.hid (l2Near_any (n : Int) x (k : Int) _ l wr (H.out.below hB) hl)
      by_cases hp : adj l x (k : Int) = true
      · have HN := Lib.hid (nw_yes (p := fun y => adj l x y) hp)
        rw [hp] at HP
        clear hp
        generalize nw (fun y => adj l x y) k = m at *
        go_wp2_with fail
        refine HP.out.mono ?_
        rintro e w1 ⟨rfl, hb⟩
        have hrow1 := own_below hrow hb
        have hB1 := btrans hB hb
        have hbk1 := Lib.hid (hbk.below hb hsz)
        have hsz1 := hbk1.out.lt
        clear hrow p0 p1 hbk hb hB
        go_wp2_with (at_builtin; refine wpList_append_own _ rfl _ _ 25 rfl (w.heap.size + 1) 3 i0 (.int .i64 0) 1 8 Try.underlying25 hi hz0 hz1 hz2 rfl (by decide) _ _ _ rfl (hrow1.alloc _) ⟨w1.heap.size, 0, none⟩ 1 1 [.int .i64 (k : Int)] rfl rfl (cell_one_new _ _ _) (fun x hx => by simp at hx; subst hx; rfl) (by unfold maxLen; omega) (by omega) (by simp; omega) ?_; intro v2 w2 hown2 hgrow2 _)
        obtain ⟨hown3, hB2⟩ := push1 hrow1 hown2 hgrow2 (by omega)
        have hbk2 := Lib.hid (hbk1.out.below hB2 (by omega))
        clear hgrow2 hrow1 hown2
        go_roundw
        case rel => exact ⟨k + 1, by omega, by go_num, by rw [HN.out]; exact hown3, hbk2.out, hB1.trans (hB2.mono (by omega))⟩
        case measure => simp [intOf]; omega
      · have hp' : adj l x (k : Int) = false := by simpa using hp
        have HN := Lib.hid (nw_no (p := fun y => adj l x y) hp')
        rw [hp'] at HP
        clear hp hp'
        go_wp2_with fail
        refine HP.out.mono ?_
        rintro e w1 ⟨rfl, hb⟩
        have hrow1 := own_below hrow hb
        have hbk1 := Lib.hid (hbk.below hb hsz)
        have hB1 := btrans hB hb
        clear hrow p0 p1 hbk hb hB
        go_wp2_with fail
        go_roundw
        case rel => exact ⟨k + 1, by omega, by go_num, by rw [HN.out]; exact hrow1, hbk1.out, hB1⟩
        case measure => simp [intOf]; omega
    · obtain rfl : k = n := by omega
      obtain ⟨A2, c2, rfl⟩ := own_form hrow
      go_wp2_with fail
      go_ret
      exact ⟨A2, c2, rfl, own_base hrow (by omega), hB⟩
end Go.Proofs.Ytphlpipbhaiijaa.neigh

/- append onto a row of the call's own, from whatever slice: nil, empty, a part of another one. It imports nothing of the program. -/
namespace Go.Proofs.Ytphlpipbhaiijaa.apps
open Go.RowKit words

theorem addr_add (g o j : Nat) : (⟨g, o, none⟩ : Addr).add j = ⟨g, o + j, none⟩ := by unfold Addr.add; split <;> simp_all

/-- where a grown row lies: in its old block, or in the new one -/
def LiesIn (v v' : Value) (H : Nat) : Prop := v'.ownBlock = v.ownBlock ∨ v'.ownBlock = some H

section
variable {P : Program} (w : World)
theorem run_append_any (t ty : TypeId) (base : Nat) (e : TypeId) (i : TypeInfo) (z : Value) (size bytes : Nat) (ht : P.underlying t = some (.slice e)) (hi : P.info? e = some i) (hz : i.zero = some z)
    (hsize : i.size = size) (hby : i.bytes = bytes) (hzs : z.cells.size = size) (hsz : 0 < size)
    (v : Value) (n : Nat) (xs : List Value) (hown : w.ownsRow base e size v n xs)
    (u : Value) (m : Nat) (news : List Value) (hr : Reads w size u m news) (hl : news.length = m * size) (h1 : ∀ x ∈ news, x.oneCell' = true)
    (h63 : n + m ≤ maxLen) (hbytes : (n + m) * bytes ≤ 140737488355328) (hbase : base ≤ w.heap.size) :
    ∃ v' w', (Builtin.append_ #[t, t] ty #[v, u]).run P w = .ok v' w' ∧ w'.ownsRow base e size v' (n + m) (xs ++ news) ∧ w.grownBy w' v.ownBlock := by
  obtain ⟨A, c, rfl, hc⟩ := hr
  cases A with
  | some ad =>
    by_cases hm : 0 < m
    · obtain ⟨g, o, hA, _, hcell⟩ := hc hm
      cases hA
      obtain ⟨v', w', hrun, h2, h3, _⟩ := run_append_own (P := P) w base t ty e i z size bytes ht hi hz hsize hby hzs hsz v n xs hown ⟨g, o, none⟩ m c news hl (fun j x hx => by rw [addr_add]; exact hcell j x hx) h1 h63 hbytes hbase
      exact ⟨v', w', hrun, h2, h3⟩
    · obtain rfl : m = 0 := by omega
      obtain rfl : news = [] := List.eq_nil_of_length_eq_zero (by simpa using hl)
      obtain ⟨v', w', hrun, h2, h3, _⟩ := run_append_own (P := P) w base t ty e i z size bytes ht hi hz hsize hby hzs hsz v n xs hown ad 0 c [] (by simp) (fun j x hx => by simp at hx) h1 h63 hbytes hbase
      exact ⟨v', w', hrun, h2, h3⟩
  | none =>
    obtain rfl : m = 0 := by
      rcases Nat.eq_zero_or_pos m with h | h
      · exact h
      · obtain ⟨g, o, hA, _⟩ := hc h
        cases hA
    obtain rfl : news = [] := List.eq_nil_of_length_eq_zero (by simpa using hl)
    refine ⟨v, w, ?_, by simpa using hown, World.grownBy.refl _ _⟩
    subst hsize
    rcases hown.2 with ⟨rfl, rfl⟩ | ⟨g, cap, cur, rfl, _, _, hnc, _⟩
    · simp [Builtin.append_, run_underlying ht, sizeOf, typeInfo, hi, Builtin.lenOf, Builtin.firstCells]
    · simp [Builtin.append_, run_underlying ht, sizeOf, typeInfo, hi, Builtin.lenOf, Builtin.firstCells, hnc, storeCells]

theorem wp_append_any {o : Oper} {a : Act} {K : Act → World → Prop} {Q : Exit → Act → World → Prop} (s x : Operand) (t : TypeId)
    (ho : o.op = .call { callee := .builtin .append, args := #[s, x], argTypes := #[t, t] })
    (base : Nat) (e : TypeId) (i : TypeInfo) (z : Value) (size bytes : Nat) (ht : P.underlying t = some (.slice e)) (hi : P.info? e = some i) (hz : i.zero = some z)
    (hsize : i.size = size) (hby : i.bytes = bytes) (hzs : z.cells.size = size) (hsz : 0 < size)
    (v : Value) (n : Nat) (xs : List Value) (hs : a.eval s = v) (hown : w.ownsRow base e size v n xs)
    (u : Value) (m : Nat) (news : List Value) (hx : a.eval x = u) (hr : Reads w size u m news) (hl : news.length = m * size) (h1 : ∀ x ∈ news, x.oneCell' = true)
    (h63 : n + m ≤ maxLen) (hbytes : (n + m) * bytes ≤ 140737488355328) (hbase : base ≤ w.heap.size)
    (h : ∀ v' w', w'.ownsRow base e size v' (n + m) (xs ++ news) → w.grownBy w' v.ownBlock → K (a.put o.dst v') w') : o.wp P a w K Q := by
  obtain ⟨v', w', hrun, h2, h3⟩ := run_append_any (P := P) w t o.type base e i z size bytes ht hi hz hsize hby hzs hsz v n xs hown u m news hr hl h1 h63 hbytes hbase
  unfold Oper.wp execOp
  simp only [ho, resolve, invoke, builtin, Sem.run_bind, Sem.run_pure, Result.andThen_ok, List.map_toArray, List.map_cons, List.map_nil, hs, hx, hrun]
  exact h v' w' h2 h3
theorem wpList_append_any {ops : Array Oper} {rest : List Oper} {o : Oper} {a : Act} {Q : Exit → Act → World → Prop} (hgd : o.guard = none) (s x : Operand) (t : TypeId)
    (ho : o.op = .call { callee := .builtin .append, args := #[s, x], argTypes := #[t, t] })
    (base : Nat) (e : TypeId) (i : TypeInfo) (z : Value) (size bytes : Nat) (ht : P.underlying t = some (.slice e)) (hi : P.info? e = some i) (hz : i.zero = some z)
    (hsize : i.size = size) (hby : i.bytes = bytes) (hzs : z.cells.size = size) (hsz : 0 < size)
    (v : Value) (n : Nat) (xs : List Value) (hs : a.eval s = v) (hown : w.ownsRow base e size v n xs)
    (u : Value) (m : Nat) (news : List Value) (hx : a.eval x = u) (hr : Reads w size u m news) (hl : news.length = m * size) (h1 : ∀ x ∈ news, x.oneCell' = true)
    (h63 : n + m ≤ maxLen) (hbytes : (n + m) * bytes ≤ 140737488355328) (hbase : base ≤ w.heap.size)
    (h : ∀ v' w', w'.ownsRow base e size v' (n + m) (xs ++ news) → w.grownBy w' v.ownBlock → wpList P ops Q rest (a.put o.dst v') w') : wpList P ops Q (o :: rest) a w :=
  wpList_plain hgd fun _ hK => wp_append_any w s x t ho base e i z size bytes ht hi hz hsize hby hzs hsz v n xs hs hown u m news hx hr hl h1 h63 hbytes hbase fun v' w' h2 h3 => hK _ _ (h v' w' h2 h3)
theorem step_append_any {ops : Array Oper} {o : Oper} {a : Act} {K : Act → World → Prop} {Q : Exit → Act → World → Prop} {E : Prop} (hgd : o.guard = none) (s x : Operand) (t : TypeId)
    (ho : o.op = .call { callee := .builtin .append, args := #[s, x], argTypes := #[t, t] })
    (base : Nat) (e : TypeId) (i : TypeInfo) (z : Value) (size bytes : Nat) (ht : P.underlying t = some (.slice e)) (hi : P.info? e = some i) (hz : i.zero = some z)
    (hsize : i.size = size) (hby : i.bytes = bytes) (hzs : z.cells.size = size) (hsz : 0 < size)
    (v : Value) (n : Nat) (xs : List Value) (hs : a.eval s = v) (hown : w.ownsRow base e size v n xs)
    (u : Value) (m : Nat) (news : List Value) (hx : a.eval x = u) (hr : Reads w size u m news) (hl : news.length = m * size) (h1 : ∀ x ∈ news, x.oneCell' = true)
    (h63 : n + m ≤ maxLen) (hbytes : (n + m) * bytes ≤ 140737488355328) (hbase : base ≤ w.heap.size)
    (h : ∀ v' w', w'.ownsRow base e size v' (n + m) (xs ++ news) → w.grownBy w' v.ownBlock → K (a.put o.dst v') w') :
    if Region.wanted o (yielded ops a.tmps) = true then Oper.wp P o a w K Q else E := by
  have hw : Region.wanted o (yielded ops a.tmps) = true := by simp [Region.wanted, hgd]
  rw [if_pos hw]
  exact wp_append_any w s x t ho base e i z size bytes ht hi hz hsize hby hzs hsz v n xs hs hown u m news hx hr hl h1 h63 hbytes hbase h
end
/-- a part of a slice of edges -/
theorem Reads.take {w : World} {size n k : Nat} {A : Option Addr} {c c' : Nat} {xs : List Value} (h : Reads w size (.slice A n c) n xs) (hk : k ≤ n) (hc : k ≤ c') : Reads w size (.slice A k c') k (xs.take (k * size)) := by
  obtain ⟨A', c2, e, hx⟩ := h
  cases e
  refine ⟨_, _, rfl, fun hn => ?_⟩
  obtain ⟨g, o, eA, _, hj⟩ := hx (by omega)
  refine ⟨g, o, eA, hc, fun j u hu => hj j u ?_⟩
  rw [List.getElem?_take] at hu
  split at hu
  · exact hu
  · cases hu
theorem Reads.drop {w : World} {size n k : Nat} {A : Option Addr} {c : Nat} {xs : List Value} (h : Reads w size (.slice A n c) n xs) (hk : k ≤ n) :
    Reads w size (.slice (if c = k then A else A.map (·.add (k * size))) (n - k) (c - k)) (n - k) (xs.drop (k * size)) := by
  obtain ⟨A', c2, e, hx⟩ := h
  cases e
  refine ⟨_, _, rfl, fun hn => ?_⟩
  obtain ⟨g, o, eA, hc, hj⟩ := hx (by omega)
  subst eA
  rw [if_neg (by omega)]
  refine ⟨g, o + k * size, by simp [addr_add], by omega, fun j u hu => ?_⟩
  rw [List.getElem?_drop] at hu
  have := hj (k * size + j) u hu
  rw [Nat.add_assoc]; exact this
theorem cellsE_take (l : List P2.Ed) (k : Nat) : (cellsE l).take (k * 2) = cellsE (l.take k) := by
  induction k generalizing l with
  | zero => simp [cellsE]
  | succ k ih =>
    cases l with
    | nil => simp [cellsE]
    | cons a l =>
      have := ih l
      simp only [cellsE, List.flatMap_cons, List.take_succ_cons] at this ⊢
      rw [show (k + 1) * 2 = k * 2 + 1 + 1 from by omega]
      simp [this]
theorem cellsE_drop (l : List P2.Ed) (k : Nat) : (cellsE l).drop (k * 2) = cellsE (l.drop k) := by
  induction k generalizing l with
  | zero => simp
  | succ k ih =>
    cases l with
    | nil => simp [cellsE]
    | cons a l =>
      have := ih l
      simp only [cellsE, List.flatMap_cons, List.drop_succ_cons] at this ⊢
      rw [show (k + 1) * 2 = k * 2 + 1 + 1 from by omega]
      simp [this]
theorem cellsI_take (l : List Int) (k : Nat) : (cellsI l).take (k * 1) = cellsI (l.take k) := by simp [cellsI, List.map_take]
theorem cellsI_drop (l : List Int) (k : Nat) : (cellsI l).drop (k * 1) = cellsI (l.drop k) := by simp [cellsI, List.map_drop]
theorem oneE (l : List P2.Ed) : ∀ x ∈ cellsE l, x.oneCell' = true := fun x hx => by
  simp only [cellsE, List.mem_flatMap] at hx
  obtain ⟨e, _, hx⟩ := hx
  simp at hx
  rcases hx with rfl | rfl <;> rfl
theorem oneI (l : List Int) : ∀ x ∈ cellsI l, x.oneCell' = true := fun x hx => by
  simp only [cellsI, List.mem_map] at hx
  obtain ⟨e, _, rfl⟩ := hx
  rfl
end Go.Proofs.Ytphlpipbhaiijaa.apps
