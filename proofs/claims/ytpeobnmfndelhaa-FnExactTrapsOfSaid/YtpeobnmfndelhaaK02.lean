/- Slices of slices of integers that a call owns: the rows lie in blocks of their own. -/
import Derived.Test.YtpeobnmfndelhaaK01
import Derived.Deep.DeepCutAuto
import Derived.Test.YtpeobnmfndelhaaProg
import Derived.Handy
import Derived.Deep.RegionHeld3
namespace Go.Proofs.Ytpeobnmfndelhaa.grid
open Go.RowKit P2 words edges ints owns
set_option linter.unusedVariables false

theorem infoRow : (Try.prog.info? 25).map (fun i => (i.zero, i.size, i.bytes)) = some (some (.slice none 0 0), 1, 24) := by kernel_rfl
theorem tneI : (3 : TypeId) ≠ 25 := by decide
/-- rows of different types lie apart -/
theorem own_apart {w : World} {B B' : Nat} {t t' : TypeId} {size size' n n' : Nat} {v v' : Value} {xs xs' : List Value} (h : w.ownsRow B t size v n xs) (h' : w.ownsRow B' t' size' v' n' xs') (ht : t ≠ t') :
    ∀ k, v.ownBlock = some k → v'.ownBlock ≠ some k := by
  intro k hk hk'
  rcases h.2 with ⟨rfl, _⟩ | ⟨g, cap, cur, rfl, _, hg, _⟩
  · simp [Value.ownBlock] at hk
  · rcases h'.2 with ⟨rfl, _⟩ | ⟨g', cap', cur', rfl, _, hg', _⟩
    · simp [Value.ownBlock] at hk'
    · simp [Value.ownBlock] at hk hk'
      subst hk
      subst hk'
      rw [hg] at hg'
      simp at hg'
      exact ht hg'.2
/-- a slice of slices of the call's own -/
def OwnG (w : World) (B : Nat) (v : Value) (us : List Value) (rows : List (List Int)) : Prop :=
  w.ownsRow B 25 1 v rows.length us ∧ (∀ (i : Nat) u r, us[i]? = some u → rows[i]? = some r → w.ownsRow B 3 1 u r.length (cellsI r)) ∧
    (∀ (i j : Nat) u u' k, i < j → us[i]? = some u → us[j]? = some u' → u.ownBlock = some k → u'.ownBlock ≠ some k)
section
variable {w w' : World} {B : Nat} {v : Value} {us : List Value} {rows : List (List Int)}
theorem OwnG.len (h : OwnG w B v us rows) : us.length = rows.length := by have := h.1.1; omega
theorem OwnG.below (h : OwnG w B v us rows) (hb : Below w.heap.size w w') : OwnG w' B v us rows :=
  ⟨own_below h.1 hb, fun i u r hu hr => own_below (h.2.1 i u r hu hr) hb, h.2.2⟩
theorem OwnG.base (h : OwnG w B v us rows) {C : Nat} (hC : C ≤ B) : OwnG w C v us rows :=
  ⟨own_base h.1 hC, fun i u r hu hr => own_base (h.2.1 i u r hu hr) hC, h.2.2⟩
theorem OwnG.nil (w : World) (B : Nat) : OwnG w B (.slice none 0 0) [] [] :=
  ⟨World.ownsRow_nil _ _ _ _, fun i u r hu => by simp at hu, fun i j u u' k _ hu => by simp at hu⟩
theorem OwnG.row (h : OwnG w B v us rows) {i : Nat} {r : List Int} (hr : rows[i]? = some r) : ∃ u, us[i]? = some u ∧ w.ownsRow B 3 1 u r.length (cellsI r) := by
  have hi := (List.getElem?_eq_some_iff.1 hr).1
  obtain ⟨u, hu⟩ : ∃ u, us[i]? = some u := ⟨_, List.getElem?_eq_getElem (by rw [h.len]; exact hi)⟩
  exact ⟨u, hu, h.2.1 i u r hu hr⟩
/-- one row more, made since w -/
theorem OwnG.push {w5 w6 : World} {u v6 : Value} {r : List Int} {o : Obj} {m : Nat} (h : OwnG w B v us rows) (hb : Below w.heap.size w w5) (hB : B ≤ w.heap.size) (hu : w5.ownsRow w.heap.size 3 1 u r.length (cellsI r))
    (hown : w6.ownsRow B 25 1 v6 (rows.length + m) (us ++ [u])) (hm : m = 1) (hg : (w5.alloc o).grownBy w6 v.ownBlock) : OwnG w6 B v6 (us ++ [u]) (rows ++ [r]) := by
  subst hm
  have h5 := h.below hb
  have hlen := h.len
  have apart : ∀ {C : Nat} {x : Value} {q : List Int}, w5.ownsRow C 3 1 x q.length (cellsI q) → x.ownBlock = none ∨ x.ownBlock ≠ v.ownBlock := fun {C x q} ho => by
    cases hh : x.ownBlock with
    | none => exact .inl rfl
    | some k => exact .inr (fun e => own_apart ho h5.1 tneI k hh e.symm)
  refine ⟨by rw [List.length_append]; exact hown, ?_, ?_⟩
  · intro i u' r' hu' hr'
    by_cases hi : i < rows.length
    · rw [List.getElem?_append_left (by omega)] at hu'
      rw [List.getElem?_append_left hi] at hr'
      have ho := h5.2.1 i u' r' hu' hr'
      exact (ho.alloc o).kept hg (apart ho)
    · have hi' : i = rows.length := by
        have := (List.getElem?_eq_some_iff.1 hr').1
        simp at this; omega
      subst hi'
      rw [List.getElem?_append_right (by omega), hlen, Nat.sub_self] at hu'
      rw [List.getElem?_append_right (Nat.le_refl _), Nat.sub_self] at hr'
      simp at hu' hr'
      subst hu'
      subst hr'
      exact own_base ((hu.alloc o).kept hg (apart hu)) hB
  · intro i j x x' k hij hx hx' hk
    by_cases hj : j < us.length
    · rw [List.getElem?_append_left (by omega)] at hx
      rw [List.getElem?_append_left hj] at hx'
      exact h.2.2 i j x x' k hij hx hx' hk
    · have hj' : j = us.length := by
        have := (List.getElem?_eq_some_iff.1 hx').1
        simp at this; omega
      subst hj'
      rw [List.getElem?_append_left hij] at hx
      rw [List.getElem?_append_right (Nat.le_refl _), Nat.sub_self] at hx'
      simp at hx'
      subst hx'
      obtain ⟨r', hr'⟩ : ∃ r', rows[i]? = some r' := ⟨_, List.getElem?_eq_getElem (by omega)⟩
      have h1 := ((h.2.1 i x r' hx hr').lt k hk).2
      intro hk'
      have h2 := (hu.lt k hk').1
      omega
end
end Go.Proofs.Ytpeobnmfndelhaa.grid

/- Function values that test numbers, and what graphWhere and nodesWhere make of them. -/
namespace Go.Proofs.Ytpeobnmfndelhaa.fns
open Go.RowKit P2 words edges ints

/-- a function value that answers for two numbers less than n, the first one less, in every world that goes on from w -/
structure Fn2 (w : World) (f : FuncId) (caps : Array Value) (n : Nat) (J : Nat → Nat → Bool) : Prop where
  enter : ∀ (args : Array Value) (W : World), (callFunc f args).run Try.prog W = .ok (.enter f args) W
  call : ∀ W, Below w.heap.size w W → ∀ x y : Nat, x < y → y < n → Calls Try.prog f (#[.int .i64 (x : Int), .int .i64 (y : Int)] ++ caps) W fun e W' => e = .returned (.bool (J x y)) ∧ Below W.heap.size W W'
structure Fn1 (w : World) (f : FuncId) (caps : Array Value) (n : Nat) (p : Nat → Bool) : Prop where
  enter : ∀ (args : Array Value) (W : World), (callFunc f args).run Try.prog W = .ok (.enter f args) W
  call : ∀ W, Below w.heap.size w W → ∀ x : Nat, x < n → Calls Try.prog f (#[.int .i64 (x : Int)] ++ caps) W fun e W' => e = .returned (.bool (p x)) ∧ Below W.heap.size W W'

/-- behind an append of one number, or of one edge -/
theorem push1 {w1 w2 : World} {B : Nat} {s v2 : Value} {m : List Int} {x : Int} {o : Obj} (hrow : w1.ownsRow B 3 1 s m.length (cellsI m)) (hown : w2.ownsRow B 3 1 v2 (m.length + 1) (cellsI m ++ [.int .i64 x]))
    (hg : (w1.alloc o).grownBy w2 s.ownBlock) (hB : B ≤ w1.heap.size) : w2.ownsRow B 3 1 v2 (m ++ [x]).length (cellsI (m ++ [x])) ∧ Below B w1 w2 :=
  ⟨by rw [cellsI_app, List.length_append]; exact hown, ((Below.refl B w1).alloc hB _).grown hg (by simp; omega) (fun j e => (hrow.lt j e).1)⟩
theorem pushE {w1 w2 : World} {B : Nat} {s v2 : Value} {m : List Ed} {a b : Int} {o : Obj} (hrow : w1.ownsRow B 115 2 s m.length (cellsE m)) (hown : w2.ownsRow B 115 2 v2 (m.length + 1) (cellsE m ++ [.int .i64 a, .int .i64 b]))
    (hg : (w1.alloc o).grownBy w2 s.ownBlock) (hB : B ≤ w1.heap.size) : w2.ownsRow B 115 2 v2 (m ++ [(a, b)]).length (cellsE (m ++ [(a, b)])) ∧ Below B w1 w2 :=
  ⟨by rw [cellsE_app, List.length_append]; exact hown, ((Below.refl B w1).alloc hB _).grown hg (by simp; omega) (fun j e => (hrow.lt j e).1)⟩
/-- the numbers less than k for which a test holds -/
def nw (p : Nat → Bool) (k : Nat) : List Int := ((List.range k).filter p).map fun x : Nat => (x : Int)
theorem nw_zero (p : Nat → Bool) : nw p 0 = [] := rfl
theorem nw_yes {p : Nat → Bool} {k : Nat} (h : p k = true) : nw p (k + 1) = nw p k ++ [(k : Int)] := by
  unfold nw
  rw [List.range_succ, List.filter_append, List.map_append]
  simp [h]
theorem nw_no {p : Nat → Bool} {k : Nat} (h : p k = false) : nw p (k + 1) = nw p k := by
  unfold nw
  rw [List.range_succ, List.filter_append, List.map_append]
  simp [h]
theorem nw_len (p : Nat → Bool) (k : Nat) : (nw p k).length ≤ k := by
  unfold nw
  rw [List.length_map]
  have := List.length_filter_le p (List.range k)
  simpa using this
theorem mem_nw {p : Nat → Bool} {k : Nat} {x : Int} : x ∈ nw p k ↔ ∃ j : Nat, j < k ∧ p j = true ∧ x = (j : Int) := by
  unfold nw
  simp only [List.mem_map, List.mem_filter, List.mem_range]
  constructor
  · rintro ⟨j, ⟨h1, h2⟩, rfl⟩; exact ⟨j, h1, h2, rfl⟩
  · rintro ⟨j, h1, h2, rfl⟩; exact ⟨j, ⟨h1, h2⟩, rfl⟩

set_option maxHeartbeats 1000000 in
theorem nodesWhere_any (n : Nat) (f : FuncId) (caps : Array Value) (p : Nat → Bool) (w : World) (hn : n ≤ 8) (h : Fn1 w f caps n p) :
    Calls Try.prog 69 #[.int .i64 (n : Int), .func (.func f) #[] caps] w fun e w' => ∃ A c, e = .returned (.slice A (nw p n).length c) ∧
      w'.ownsRow w.heap.size 3 1 (.slice A (nw p n).length c) (nw p n).length (cellsI (nw p n)) ∧ Below w.heap.size w w' := by
  obtain ⟨i0, hi, hz0, hz1, hz2⟩ := info_parts infoInt
  have hent := h.enter
  have HC := Lib.hid h.call
  clear h
  go_enter Try.func69, Try.ntmps69
  go_wp2_with fail
  go_loopw [5, 8] (fun s i wr => ∃ k : Nat, k ≤ n ∧ i = .int .i64 (k : Int) ∧ wr.ownsRow w.heap.size 3 1 s (nw p k).length (cellsI (nw p k)) ∧ Below w.heap.size w wr) (fun _ i _ => n - (intOf i).toNat)
  case atStart => exact ⟨0, Nat.zero_le _, rfl, World.ownsRow_nil _ _ _ _, Below.refl _ _⟩
  case round =>
    obtain ⟨k, hk, rfl, hrow, hB⟩ := hrel
    have hlen := nw_len p k
    by_cases hlt : k < n
    · have hlt' : (k : Int) < (n : Int) := by omega
      have HCk := HC.out
      have HP := Lib.hid (fun (W : World) (hb : Below w.heap.size w W) => HCk W hb k hlt)
      clear HCk
      have hsz := hB.size
      by_cases hp : p k = true
      · have HN := Lib.hid (nw_yes hp)
        rw [hp] at HP
        clear hp
        generalize nw p k = l at *
        go_wp2_with fail
        refine (HP.out _ hB).mono ?_
        rintro e w1 ⟨rfl, hb⟩
        have hrow1 := own_below hrow hb
        have hB1 := hB.trans (hb.mono hsz)
        have hsz1 := hB1.size
        clear hrow
        go_wp2_with (at_builtin; refine wpList_append_own _ rfl _ _ 25 rfl w.heap.size 3 i0 (.int .i64 0) 1 8 Try.underlying25 hi hz0 hz1 hz2 rfl (by decide) _ _ _ rfl (hrow1.alloc _) ⟨w1.heap.size, 0, none⟩ 1 1 [.int .i64 (k : Int)] rfl rfl (cell_one_new _ _ _) (fun x hx => by simp at hx; subst hx; rfl) (by unfold maxLen; omega) (by omega) (by simp; omega) ?_; intro v2 w2 hown2 hgrow2 _)
        have hB2 : Below w.heap.size w w2 := (hB1.alloc hsz1 _).grown hgrow2 (by simp; omega) (fun j e => (hrow1.lt j e).1)
        clear hgrow2 hrow1
        go_roundw
        case rel => exact ⟨k + 1, by omega, by go_num, by rw [HN.out, cellsI_app, List.length_append]; exact hown2, hB2⟩
        case measure => simp [intOf]; omega
      · have hp' : p k = false := by simpa using hp
        have HN := Lib.hid (nw_no hp')
        rw [hp'] at HP
        clear hp hp'
        go_wp2_with fail
        refine (HP.out _ hB).mono ?_
        rintro e w1 ⟨rfl, hb⟩
        have hrow1 := own_below hrow hb
        have hB1 := hB.trans (hb.mono hsz)
        clear hrow
        go_wp2_with fail
        go_roundw
        case rel => exact ⟨k + 1, by omega, by go_num, by rw [HN.out]; exact hrow1, hB1⟩
        case measure => simp [intOf]; omega
    · obtain rfl : k = n := by omega
      obtain ⟨A, c, rfl⟩ := own_form hrow
      go_wp2_with fail
      go_ret
      exact ⟨A, c, rfl, hrow, hB⟩
end Go.Proofs.Ytpeobnmfndelhaa.fns

/- What a function returns that may fail: a Graph and true, a list and true, or zero values and false. -/
namespace Go.Proofs.Ytpeobnmfndelhaa.rets
open Go.RowKit P2 words

noncomputable def okG (p : Prop) : Bool := @decide p (Classical.propDecidable _)
noncomputable def szG (p : Prop) (n : Int) : Int := if okG p = true then n else 0
noncomputable def edG (p : Prop) (l : List Ed) : List Ed := if okG p = true then l else []
noncomputable def inG (p : Prop) (l : List Int) : List Int := if okG p = true then l else []
theorem okG_yes {p : Prop} (h : p) : okG p = true := @decide_eq_true _ (Classical.propDecidable _) h
theorem okG_no {p : Prop} (h : ¬ p) : okG p = false := @decide_eq_false _ (Classical.propDecidable _) h
theorem okG_iff {p : Prop} : okG p = true ↔ p := @decide_eq_true_iff _ (Classical.propDecidable _)
theorem szG_yes {p : Prop} (h : p) (n : Int) : szG p n = n := by unfold szG; rw [okG_yes h]; rfl
theorem szG_no {p : Prop} (h : ¬ p) (n : Int) : szG p n = 0 := by unfold szG; rw [okG_no h]; rfl
theorem edG_yes {p : Prop} (h : p) (l : List Ed) : edG p l = l := by unfold edG; rw [okG_yes h]; rfl
theorem edG_no {p : Prop} (h : ¬ p) (l : List Ed) : edG p l = [] := by unfold edG; rw [okG_no h]; rfl
theorem inG_yes {p : Prop} (h : p) (l : List Int) : inG p l = l := by unfold inG; rw [okG_yes h]; rfl
theorem inG_no {p : Prop} (h : ¬ p) (l : List Int) : inG p l = [] := by unfold inG; rw [okG_no h]; rfl
theorem edG_len {p : Prop} {l : List Ed} {k : Nat} (h : p → l.length ≤ k) : (edG p l).length ≤ k := by
  by_cases hp : p
  · rw [edG_yes hp]; exact h hp
  · rw [edG_no hp]; exact Nat.zero_le _
theorem inG_len {p : Prop} {l : List Int} {k : Nat} (h : p → l.length ≤ k) : (inG p l).length ≤ k := by
  by_cases hp : p
  · rw [inG_yes hp]; exact h hp
  · rw [inG_no hp]; exact Nat.zero_le _
theorem edG_congr {p q : Prop} {l m : List Ed} (h : p ↔ q) (hl : p → l = m) : edG p l = edG q m := by
  by_cases hp : p
  · rw [edG_yes hp, edG_yes (h.1 hp), hl hp]
  · rw [edG_no hp, edG_no (fun hq => hp (h.2 hq))]
theorem inG_congr {p q : Prop} {l m : List Int} (h : p ↔ q) (hl : p → l = m) : inG p l = inG q m := by
  by_cases hp : p
  · rw [inG_yes hp, inG_yes (h.1 hp), hl hp]
  · rw [inG_no hp, inG_no (fun hq => hp (h.2 hq))]

/-- a Graph and true where p holds, or zero values and false -/
def RetG (w : World) (p : Prop) (n : Int) (l : List Ed) (e : Ending) (w' : World) : Prop :=
  ∃ A c, e = .returned (.tuple #[.agg #[.int .i64 (szG p n), .slice A (edG p l).length c], .bool (okG p)]) ∧
    w'.ownsRow w.heap.size 115 2 (.slice A (edG p l).length c) (edG p l).length (cellsE (edG p l)) ∧ Below w.heap.size w w'
theorem RetG.yes {w w' : World} {p : Prop} {n : Int} {l : List Ed} {A : Option Addr} {c : Nat} (hp : p) (ho : w'.ownsRow w.heap.size 115 2 (.slice A l.length c) l.length (cellsE l)) (hb : Below w.heap.size w w') :
    RetG w p n l (.returned (.tuple #[.agg #[.int .i64 n, .slice A l.length c], .bool true])) w' := by
  refine ⟨A, c, ?_, ?_, hb⟩
  · rw [szG_yes hp, edG_yes hp, okG_yes hp]
  · rw [edG_yes hp]; exact ho
theorem RetG.no {w w' : World} {p : Prop} {n : Int} {l : List Ed} (hp : ¬ p) (hb : Below w.heap.size w w') :
    RetG w p n l (.returned (.tuple #[.agg #[.int .i64 0, .slice none 0 0], .bool false])) w' := by
  refine ⟨none, 0, ?_, ?_, hb⟩
  · rw [szG_no hp, edG_no hp, okG_no hp]; rfl
  · rw [edG_no hp]; exact World.ownsRow_nil _ _ _ _
theorem RetG.congr {w w' : World} {p q : Prop} {n m : Int} {l k : List Ed} {e : Ending} (h : RetG w p n l e w') (hp : p ↔ q) (hn : p → n = m) (hl : p → l = k) : RetG w q m k e w' := by
  by_cases h0 : p
  · obtain rfl := hn h0
    obtain rfl := hl h0
    rw [show q = p from (propext hp).symm]; exact h
  · have e1 : RetG w p n l = RetG w q m k := by
      funext e w'
      unfold RetG
      rw [szG_no h0, edG_no h0, okG_no h0, szG_no (fun hq => h0 (hp.2 hq)), edG_no (fun hq => h0 (hp.2 hq)), okG_no (fun hq => h0 (hp.2 hq))]
    rw [← e1]; exact h
/-- a list of numbers and true where p holds, or zero values and false -/
def RetI (w : World) (p : Prop) (l : List Int) (e : Ending) (w' : World) : Prop :=
  ∃ A c, e = .returned (.tuple #[.slice A (inG p l).length c, .bool (okG p)]) ∧
    w'.ownsRow w.heap.size 3 1 (.slice A (inG p l).length c) (inG p l).length (cellsI (inG p l)) ∧ Below w.heap.size w w'
theorem RetI.yes {w w' : World} {p : Prop} {l : List Int} {A : Option Addr} {c : Nat} (hp : p) (ho : w'.ownsRow w.heap.size 3 1 (.slice A l.length c) l.length (cellsI l)) (hb : Below w.heap.size w w') :
    RetI w p l (.returned (.tuple #[.slice A l.length c, .bool true])) w' := by
  refine ⟨A, c, ?_, ?_, hb⟩
  · rw [inG_yes hp, okG_yes hp]
  · rw [inG_yes hp]; exact ho
theorem RetI.no {w w' : World} {p : Prop} {l : List Int} {A : Option Addr} {c : Nat} (hp : ¬ p) (ho : w'.ownsRow w.heap.size 3 1 (.slice A 0 c) 0 []) (hb : Below w.heap.size w w') :
    RetI w p l (.returned (.tuple #[.slice A 0 c, .bool false])) w' := by
  refine ⟨A, c, ?_, ?_, hb⟩
  · rw [inG_no hp, okG_no hp]; rfl
  · rw [inG_no hp]; exact ho
theorem RetI.nil {w w' : World} {p : Prop} {l : List Int} (hp : ¬ p) (hb : Below w.heap.size w w') : RetI w p l (.returned (.tuple #[.slice none 0 0, .bool false])) w' :=
  RetI.no hp (World.ownsRow_nil _ _ _ _) hb
theorem RetI.congr {w w' : World} {p q : Prop} {l k : List Int} {e : Ending} (h : RetI w p l e w') (hp : p ↔ q) (hl : p → l = k) : RetI w q k e w' := by
  by_cases h0 : p
  · obtain rfl := hl h0
    rw [show q = p from (propext hp).symm]; exact h
  · have e1 : RetI w p l = RetI w q k := by
      funext e w'
      unfold RetI
      rw [inG_no h0, okG_no h0, inG_no (fun hq => h0 (hp.2 hq)), okG_no (fun hq => h0 (hp.2 hq))]
    rw [← e1]; exact h
end Go.Proofs.Ytpeobnmfndelhaa.rets

/- Slices of slices of integers: what a function returns that may fail; a row stored, rows made. -/
namespace Go.Proofs.Ytpeobnmfndelhaa.grid
open Go.RowKit P2 words edges ints owns rets
set_option linter.unusedVariables false

noncomputable def gdG (p : Prop) (rows : List (List Int)) : List (List Int) := if okG p = true then rows else []
theorem gdG_yes {p : Prop} (h : p) (l : List (List Int)) : gdG p l = l := by unfold gdG; rw [okG_yes h]; rfl
theorem gdG_no {p : Prop} (h : ¬ p) (l : List (List Int)) : gdG p l = [] := by unfold gdG; rw [okG_no h]; rfl
/-- rows and true where p holds, or none and false -/
def RetGr (w : World) (p : Prop) (rows : List (List Int)) (e : Ending) (w' : World) : Prop :=
  ∃ A c us, e = .returned (.tuple #[.slice A (gdG p rows).length c, .bool (okG p)]) ∧ OwnG w' w.heap.size (.slice A (gdG p rows).length c) us (gdG p rows) ∧ Below w.heap.size w w'
theorem RetGr.yes {w w' : World} {p : Prop} {rows : List (List Int)} {A : Option Addr} {c : Nat} {us : List Value} (hp : p) (ho : OwnG w' w.heap.size (.slice A rows.length c) us rows) (hb : Below w.heap.size w w') :
    RetGr w p rows (.returned (.tuple #[.slice A rows.length c, .bool true])) w' := by
  refine ⟨A, c, us, ?_, ?_, hb⟩
  · rw [gdG_yes hp, okG_yes hp]
  · rw [gdG_yes hp]; exact ho
theorem RetGr.no {w w' : World} {p : Prop} {rows : List (List Int)} {A : Option Addr} {c : Nat} (hp : ¬ p) (ho : w'.ownsRow w.heap.size 25 1 (.slice A 0 c) 0 []) (hb : Below w.heap.size w w') :
    RetGr w p rows (.returned (.tuple #[.slice A 0 c, .bool false])) w' := by
  refine ⟨A, c, [], ?_, ?_, hb⟩
  · rw [gdG_no hp, okG_no hp]; rfl
  · rw [gdG_no hp]
    exact ⟨ho, fun i u r hu => by simp at hu, fun i j u u' k _ hu => by simp at hu⟩
theorem RetGr.nil {w w' : World} {p : Prop} {rows : List (List Int)} (hp : ¬ p) (hb : Below w.heap.size w w') : RetGr w p rows (.returned (.tuple #[.slice none 0 0, .bool false])) w' :=
  RetGr.no hp (World.ownsRow_nil _ _ _ _) hb
theorem RetGr.congr {w w' : World} {p q : Prop} {rows rows' : List (List Int)} {e : Ending} (h : RetGr w p rows e w') (hp : p ↔ q) (hr : p → rows = rows') : RetGr w q rows' e w' := by
  have hpq : p = q := propext hp
  subst hpq
  by_cases h1 : p
  · rw [← hr h1]; exact h
  · obtain ⟨A, c, us, h2, h3, h4⟩ := h
    rw [gdG_no h1] at h2 h3
    exact ⟨A, c, us, by rw [gdG_no h1]; exact h2, by rw [gdG_no h1]; exact h3, h4⟩
section
variable {w w' : World} {B : Nat} {us : List Value} {rows : List (List Int)}
/-- a row stored into its place -/
theorem OwnG.store {g c k : Nat} {u : Value} {r : List Int} (h : OwnG w B (.slice (some ⟨g, 0, none⟩) rows.length c) us rows) (hk : k < rows.length) (hu : w.ownsRow B 3 1 u r.length (cellsI r))
    (hne : ∀ i x b, i ≠ k → us[i]? = some x → x.ownBlock = some b → u.ownBlock ≠ some b) : OwnG (w.setCell ⟨g, k, none⟩ u) B (.slice (some ⟨g, 0, none⟩) rows.length c) (us.set k u) (rows.set k r) := by
  have hl := h.len
  have hgr := gset (World.grownBy.refl w (some g)) k u
  have keep : ∀ {x : Value} {q : List Int}, w.ownsRow B 3 1 x q.length (cellsI q) → (w.setCell ⟨g, k, none⟩ u).ownsRow B 3 1 x q.length (cellsI q) := fun {x q} ho => by
    refine ho.kept hgr ?_
    cases hx : x.ownBlock with
    | none => exact .inl rfl
    | some b => exact .inr fun e => own_apart ho h.1 tneI b hx (by simp [Value.ownBlock]; cases e; rfl)
  refine ⟨?_, ?_, ?_⟩
  · rw [List.length_set]
    have := (h.1.stored k u).1
    simpa using this
  · intro i x q hx hq
    by_cases e : i = k
    · subst e
      rw [List.getElem?_set_self (by omega)] at hx
      rw [List.getElem?_set_self hk] at hq
      cases hx; cases hq
      exact keep hu
    · rw [List.getElem?_set_ne (fun hh => e hh.symm)] at hx hq
      exact keep (h.2.1 i x q hx hq)
  · intro i j x x' b hij hx hx' hb
    by_cases e : i = k
    · subst e
      rw [List.getElem?_set_self (by omega)] at hx
      cases hx
      rw [List.getElem?_set_ne (by omega)] at hx'
      intro hb'
      exact hne j x' b (by omega) hx' hb' hb
    · rw [List.getElem?_set_ne (fun hh => e hh.symm)] at hx
      by_cases e2 : j = k
      · subst e2
        rw [List.getElem?_set_self (by omega)] at hx'
        cases hx'
        exact hne i x b e hx hb
      · rw [List.getElem?_set_ne (fun hh => e2 hh.symm)] at hx'
        exact h.2.2 i j x x' b hij hx hx' hb
/-- a row made since is apart from all others -/
theorem OwnG.fresh {w0 : World} {v u : Value} {r : List Int} (h : OwnG w0 B v us rows) (hu : w.ownsRow w0.heap.size 3 1 u r.length (cellsI r)) : ∀ (i : Nat) x b, us[i]? = some x → x.ownBlock = some b → u.ownBlock ≠ some b := fun i x b hx hb hb' => by
  obtain ⟨q, hq⟩ : ∃ q, rows[i]? = some q := ⟨_, List.getElem?_eq_getElem (by have := (List.getElem?_eq_some_iff.1 hx).1; have := h.len; omega)⟩
  have h1 := ((h.2.1 i x q hx hq).lt b hb).2
  have h2 := (hu.lt b hb').1
  omega
/-- rows without numbers, just made -/
theorem OwnG.made (w : World) (n : Nat) (hn : n ≤ maxLen) : OwnG (w.alloc (.cells (madeCells #[.slice none 0 0] (n * 1)) 25)) w.heap.size (.slice (some ⟨w.heap.size, 0, none⟩) n n) (List.replicate n (.slice none 0 0)) (List.replicate n []) := by
  have hm : (madeCells #[Value.slice none 0 0] (n * 1)).toList = List.replicate n (.slice none 0 0) := by rw [toList_madeCells_one]; simp
  refine ⟨?_, ?_, ?_⟩
  · have hown := World.ownsRow_lit (base := w.heap.size) (e := 25) (size := 1) w (madeCells #[Value.slice none 0 0] (n * 1)) n (Nat.le_refl _) hn (size_madeCells _ _)
    rw [hm] at hown
    rw [List.length_replicate]
    exact hown
  · intro i x q hx hq
    have h1 : x = .slice none 0 0 := (List.mem_replicate.1 (List.mem_of_getElem? hx)).2
    have h2 : q = [] := (List.mem_replicate.1 (List.mem_of_getElem? hq)).2
    subst h1; subst h2
    exact World.ownsRow_nil _ _ _ _
  · intro i j x x' b hij hx hx' hb
    have h1 : x = .slice none 0 0 := (List.mem_replicate.1 (List.mem_of_getElem? hx)).2
    subst h1
    simp [Value.ownBlock] at hb
end
end Go.Proofs.Ytpeobnmfndelhaa.grid

/- A slice of slices of integers that reads as rows. -/
namespace Go.Proofs.Ytpeobnmfndelhaa.gridr
open Go.RowKit P2 words
set_option linter.unusedVariables false

/-- a slice of slices that reads as rows -/
def ReadsG (w : World) (v : Value) (us : List Value) (rows : List (List Int)) : Prop :=
  Reads w 1 v rows.length us ∧ us.length = rows.length ∧ ∀ (i : Nat) u r, us[i]? = some u → rows[i]? = some r → Ints w u r
theorem ReadsG.below {w w' : World} {v : Value} {us : List Value} {rows : List (List Int)} (h : ReadsG w v us rows) (hb : Below w.heap.size w w') : ReadsG w' v us rows :=
  ⟨h.1.below hb, h.2.1, fun i u r hu hr => (h.2.2 i u r hu hr).below hb⟩
theorem ReadsG.row {w : World} {A : Option Addr} {n c : Nat} {us : List Value} {rows : List (List Int)} (h : ReadsG w (.slice A n c) us rows) {i : Nat} {r : List Int} (hr : rows[i]? = some r) :
    ∃ u g o, us[i]? = some u ∧ A = some ⟨g, o, none⟩ ∧ w.cell? ⟨g, o + i, none⟩ = some u ∧ Ints w u r := by
  have hi := (List.getElem?_eq_some_iff.1 hr).1
  obtain ⟨u, hu⟩ : ∃ u, us[i]? = some u := ⟨_, List.getElem?_eq_getElem (by rw [h.2.1]; exact hi)⟩
  obtain ⟨A', c', e, hx⟩ := h.1
  cases e
  obtain ⟨g, o, rfl, _, hj⟩ := hx (by omega)
  exact ⟨u, g, o, hu, rfl, hj i u hu, h.2.2 i u r hu hr⟩

end Go.Proofs.Ytpeobnmfndelhaa.gridr

/- What the laws do with slices of slices of integers: compare, mark, look at the marks. -/
namespace Go.Proofs.Ytpeobnmfndelhaa.gridl
open Go.RowKit P2 words edges ints owns grid gridr
set_option linter.unusedVariables false

theorem readsG_of_own {w : World} {B : Nat} {v : Value} {us : List Value} {rows : List (List Int)} (h : OwnG w B v us rows) : ReadsG w v us rows :=
  ⟨Reads.of_own h.1, h.len, fun i u r hu hr => Reads.of_own (h.2.1 i u r hu hr)⟩
def OwnGR (B S : Nat) (w : World) (v : Value) (us : List Value) (rows : List (List Int)) : Prop :=
  OwnG w B v us rows ∧ (∀ k, v.ownBlock = some k → k < S) ∧ ∀ (i : Nat) u k, us[i]? = some u → u.ownBlock = some k → k < S
section
variable {w w' : World} {B S B' S' : Nat} {v : Value} {us : List Value} {rows : List (List Int)}
theorem own_turned {t : TypeId} {size n : Nat} {xs : List Value} (h : w.ownsRow B t size v n xs) (hS : ∀ k, v.ownBlock = some k → k < S) (ht : Turned B' S' w w') (hd : S ≤ B' ∨ S' ≤ B) : w'.ownsRow B t size v n xs :=
  (OwnR.turned (S := S) ⟨h, hS⟩ ht hd).1
theorem OwnGR.new (h : OwnG w B v us rows) : OwnGR B w.heap.size w v us rows :=
  ⟨h, fun k hk => (h.1.lt k hk).2, fun i u k hu hk => by
    obtain ⟨r, hr⟩ : ∃ r, rows[i]? = some r := ⟨_, List.getElem?_eq_getElem (by have := (List.getElem?_eq_some_iff.1 hu).1; have := h.len; omega)⟩
    exact ((h.2.1 i u r hu hr).lt k hk).2⟩
theorem OwnGR.below (h : OwnGR B S w v us rows) (hb : Below w.heap.size w w') : OwnGR B S w' v us rows := ⟨h.1.below hb, h.2⟩
theorem OwnGR.turned (h : OwnGR B S w v us rows) (ht : Turned B' S' w w') (hd : S ≤ B' ∨ S' ≤ B) : OwnGR B S w' v us rows :=
  ⟨⟨own_turned h.1.1 h.2.1 ht hd, fun i u r hu hr => own_turned (h.1.2.1 i u r hu hr) (fun k hk => h.2.2 i u k hu hk) ht hd, h.1.2.2⟩, h.2⟩
theorem OwnGR.reads (h : OwnGR B S w v us rows) : ReadsG w v us rows := readsG_of_own h.1
/-- one row is written anew -/
theorem OwnG.mark {k : Nat} {u : Value} {r r' : List Int} (h : OwnG w B v us rows) (hu : us[k]? = some u) (hr : rows[k]? = some r) (hn : w'.ownsRow B 3 1 u r'.length (cellsI r')) (hl : r'.length = r.length)
    (hg : w.grownBy w' u.ownBlock) : OwnG w' B v us (rows.set k r') := by
  have hu0 := h.2.1 k u r hu hr
  have hk := (List.getElem?_eq_some_iff.1 hr).1
  refine ⟨?_, ?_, h.2.2⟩
  · rw [List.length_set]
    refine h.1.kept hg ?_
    cases hv : v.ownBlock with
    | none => exact .inl rfl
    | some b => exact .inr fun e => own_apart hu0 h.1 tneI b e.symm hv
  · intro i x q hx hq
    by_cases e : i = k
    · subst e
      rw [hu] at hx; cases hx
      rw [List.getElem?_set_self hk] at hq; cases hq
      exact hn
    · rw [List.getElem?_set_ne (fun hh => e hh.symm)] at hq
      refine (h.2.1 i x q hx hq).kept hg ?_
      cases hv : x.ownBlock with
      | none => exact .inl rfl
      | some b =>
        refine .inr fun e2 => ?_
        rcases Nat.lt_or_gt_of_ne e with hlt | hlt
        · exact h.2.2 i k x u b hlt hx hu hv e2.symm
        · exact h.2.2 k i u x b hlt hu hx e2.symm hv
theorem Turned.trans {a b c : World} (h : Turned B S a b) (k : Turned B S b c) : Turned B S a c :=
  ⟨k.os.trans h.os, k.tape.trans h.tape, k.output.trans h.output, Nat.le_trans h.size k.size, fun i hi hd => (k.block i (Nat.lt_of_lt_of_le hi h.size) hd).trans (h.block i hi hd)⟩
theorem Turned.refl (B S : Nat) (w : World) : Turned B S w w := ⟨rfl, rfl, rfl, Nat.le_refl _, fun _ _ _ => rfl⟩
end

def tot (rows : List (List Int)) : Nat := (rows.map List.length).sum
/-- numbers one after the other, in rows as long as those -/
def marksG (m : Nat) : List (List Int) → List (List Int)
  | [] => []
  | r :: rs => marksI m r.length :: marksG (m + r.length) rs
theorem marksG_len : ∀ (rows : List (List Int)) (m : Nat), (marksG m rows).length = rows.length
  | [], _ => rfl
  | r :: rs, m => by simp [marksG, marksG_len rs]
theorem marksG_at : ∀ {rows : List (List Int)} {m k : Nat} {r : List Int}, rows[k]? = some r → (marksG m rows)[k]? = some (marksI (m + tot (rows.take k)) r.length)
  | [], _, _, _, h => by simp at h
  | a :: rs, m, 0, r, h => by
    simp at h; subst h; simp [marksG, tot]
  | a :: rs, m, k + 1, r, h => by
    simp at h
    have := marksG_at (m := m + a.length) h
    simp only [marksG, List.getElem?_cons_succ, this, tot, List.take_succ_cons, List.map_cons, List.sum_cons, Nat.add_assoc]
theorem marksG_tot : ∀ (rows : List (List Int)) (m k : Nat), tot ((marksG m rows).take k) = tot (rows.take k)
  | [], _, _ => by simp [marksG]
  | r :: rs, m, 0 => rfl
  | r :: rs, m, k + 1 => by
    have := marksG_tot rs (m + r.length) k
    simp only [marksG, tot, List.take_succ_cons, List.map_cons, List.sum_cons, marksI_len] at this ⊢
    omega
theorem tot_succ {rows : List (List Int)} {k : Nat} {r : List Int} (h : rows[k]? = some r) : tot (rows.take (k + 1)) = tot (rows.take k) + r.length := by
  unfold tot; rw [List.take_add_one, h]; simp
theorem tot_le (rows : List (List Int)) (k : Nat) : tot (rows.take k) ≤ tot rows := by
  have h : tot rows = tot (rows.take k) + tot (rows.drop k) := by
    unfold tot; rw [← List.sum_append, ← List.map_append, List.take_append_drop]
  omega
/-- the first k rows marked -/
def markTo (m : Nat) (rows : List (List Int)) (k : Nat) : List (List Int) := (marksG m rows).take k ++ rows.drop k
theorem markTo_len {m k : Nat} {rows : List (List Int)} (h : k ≤ rows.length) : (markTo m rows k).length = rows.length := by
  unfold markTo; rw [List.length_append, List.length_take, marksG_len, List.length_drop]; omega
theorem markTo_zero (m : Nat) (rows : List (List Int)) : markTo m rows 0 = rows := by simp [markTo]
theorem markTo_all (m : Nat) (rows : List (List Int)) : markTo m rows rows.length = marksG m rows := by
  unfold markTo; rw [List.drop_length, List.append_nil, ← marksG_len rows m, List.take_length]
theorem markTo_at {m k : Nat} {rows : List (List Int)} {r : List Int} (h : rows[k]? = some r) : (markTo m rows k)[k]? = some r := by
  have hk := (List.getElem?_eq_some_iff.1 h).1
  unfold markTo
  rw [List.getElem?_append_right (by rw [List.length_take, marksG_len]; omega), List.length_take, marksG_len, Nat.min_eq_left (by omega), Nat.sub_self, List.getElem?_drop]
  exact h
theorem markTo_set {m k : Nat} {rows : List (List Int)} {r : List Int} (h : rows[k]? = some r) : (markTo m rows k).set k (marksI (m + tot (rows.take k)) r.length) = markTo m rows (k + 1) := by
  have hk := (List.getElem?_eq_some_iff.1 h).1
  have hl : ((marksG m rows).take k).length = k := by rw [List.length_take, marksG_len]; omega
  unfold markTo
  rw [List.set_append_right _ _ (by omega), hl, Nat.sub_self, List.drop_eq_getElem_cons hk, List.set_cons_zero, List.take_add_one, marksG_at h]
  simp

set_option maxHeartbeats 1000000 in
theorem markIntSS_own (v : Value) (us : List Value) (rows : List (List Int)) (B S m : Nat) (w : World) (h : OwnGR B S w v us rows) (hl : m + tot rows ≤ 10000000) (hn : rows.length ≤ 1048576) :
    Calls Try.prog 23 #[v, .int .i64 (m : Int)] w fun e w' => e = .returned (.int .i64 ((m + tot rows : Nat) : Int)) ∧ OwnGR B S w' v us (marksG m rows) ∧ Turned B S w w' := by
  obtain ⟨A, c, rfl⟩ := own_form h.1.1
  have H0 := Lib.hid h
  clear h
  go_enter Try.func23, Try.ntmps23
  go_wp2_with fail
  go_loopw [1, 5] (fun q i wr => ∃ k : Nat, k ≤ rows.length ∧ i = .int .i64 (k : Int) ∧ q = .int .i64 ((m + tot (rows.take k) : Nat) : Int) ∧ OwnG wr B (.slice A rows.length c) us (markTo m rows k) ∧ Turned B S w wr)
    (fun _ i _ => rows.length - (intOf i).toNat)
  case atStart => exact ⟨0, Nat.zero_le _, rfl, rfl, by rw [markTo_zero]; exact H0.out.1, Turned.refl _ _ _⟩
  case round =>
    obtain ⟨k, hk, rfl, rfl, hown, hT⟩ := hrel
    have htl := tot_le rows k
    by_cases hlt : k < rows.length
    · obtain ⟨r, hr⟩ : ∃ r, rows[k]? = some r := ⟨_, List.getElem?_eq_getElem hlt⟩
      have hlt' : (k : Int) < (rows.length : Int) := by omega
      obtain ⟨u, g, o, hu, rfl, c0, -⟩ := (readsG_of_own hown).row (markTo_at (m := m) hr)
      have HS := Lib.hid (markTo_set (m := m) hr)
      have htu := tot_le rows (k + 1)
      have HTS := Lib.hid (tot_succ hr)
      rw [tot_succ hr] at htu
      have hrow := hown.2.1 k u r hu (markTo_at (m := m) hr)
      have HM := Lib.hid (markIntS_any u r B (m + tot (rows.take k)) wr hrow (by omega))
      have HO := Lib.hid hown
      have HT := Lib.hid hT
      have HU := Lib.hid hu
      have HR := Lib.hid (markTo_at (m := m) hr)
      have HB := Lib.hid (fun j hj => (⟨(hrow.lt j hj).1, H0.out.2.2 k u j hu hj⟩ : B ≤ j ∧ j < S))
      clear hown hT hu hr hrow
      go_wp2_with fail
      refine HM.out.mono ?_
      rintro e w2 ⟨rfl, h2, h3⟩
      go_wp2_with fail
      go_roundw
      case rel => exact ⟨k + 1, by omega, by go_num, by rw [HTS.out]; congr 1; omega, by rw [← HS.out]; exact OwnG.mark HO.out HU.out HR.out (by rw [marksI_len]; exact h2) (marksI_len _ _) h3, Turned.trans HT.out (turned_of h3 HB.out)⟩
      case measure => simp [intOf]; omega
    · obtain rfl : k = rows.length := by omega
      rw [markTo_all] at hown
      have HO := Lib.hid hown
      clear hown
      go_wp2_with fail
      go_ret
      exact ⟨ret_int (by rw [List.take_length]), ⟨HO.out, H0.out.2⟩, hT⟩

set_option maxHeartbeats 1000000 in
theorem heldIntSS_own (v : Value) (us : List Value) (rows : List (List Int)) (B S m : Nat) (w : World) (h : OwnGR B S w v us (marksG m rows)) (hl : m + tot rows ≤ 10000000) (hn : rows.length ≤ 1048576) :
    Calls Try.prog 24 #[v, .int .i64 (m : Int)] w fun e w' => e = .returned (.int .i64 ((m + tot rows : Nat) : Int)) ∧ Below w.heap.size w w' := by
  obtain ⟨A, c, rfl⟩ := own_form h.1.1
  have H0 := Lib.hid h.reads
  have hgl := marksG_len rows m
  rw [hgl] at *
  clear h hgl
  go_enter Try.func24, Try.ntmps24
  go_wp2_with fail
  go_loop [1, 5] (fun q i => ∃ k : Nat, k ≤ rows.length ∧ i = .int .i64 (k : Int) ∧ q = .int .i64 ((m + tot (rows.take k) : Nat) : Int)) (fun _ i => rows.length - (intOf i).toNat)
  case atStart => exact ⟨0, Nat.zero_le _, rfl, rfl⟩
  case round =>
    obtain ⟨k, hk, rfl, rfl⟩ := hrel
    have htl := tot_le rows k
    by_cases hlt : k < rows.length
    · obtain ⟨r, hr⟩ : ∃ r, rows[k]? = some r := ⟨_, List.getElem?_eq_getElem hlt⟩
      have hlt' : (k : Int) < (rows.length : Int) := by omega
      obtain ⟨u, g, o, hu, rfl, c0, hru⟩ := H0.out.row (marksG_at (m := m) hr)
      have htu := tot_le rows (k + 1)
      have HTS := Lib.hid (tot_succ hr)
      rw [tot_succ hr] at htu
      have HM := Lib.hid (heldIntS_any u r.length (m + tot (rows.take k)) w hru (by omega))
      have hnn : ¬ ((m + tot (rows.take k) + r.length : Nat) : Int) < 0 := by omega
      clear hu hru hr
      go_wp2_with fail
      refine HM.out.mono ?_
      rintro e w2 ⟨rfl, rfl⟩
      go_wp2_with fail
      go_round
      case rel => exact ⟨k + 1, by omega, by go_num, by rw [HTS.out]; congr 1; omega⟩
      case measure => simp [intOf]; omega
    · obtain rfl : k = rows.length := by omega
      go_wp2_with fail
      go_ret
      exact ⟨rfl, Below.refl _ _⟩

set_option maxHeartbeats 1000000 in
theorem eqIntSS_own (a b : Value) (us ub : List Value) (rows : List (List Int)) (w : World) (ha : ReadsG w a us rows) (hb : ReadsG w b ub rows) (hl : tot rows ≤ 1048576) (hn : rows.length ≤ 1048576) :
    Calls Try.prog 18 #[a, b] w fun e w' => e = .returned (.bool true) ∧ Below w.heap.size w w' := by
  have HA := Lib.hid ha
  have HB := Lib.hid hb
  obtain ⟨A, c, rfl, -⟩ := ha.1
  obtain ⟨A2, c2, rfl, -⟩ := hb.1
  have hself : ((rows.length : Int) != (rows.length : Int)) = false := by simp
  clear ha hb
  go_enter Try.func18, Try.ntmps18
  go_wp2_with fail
  go_loopg [5] rows.length (fun g i wr => ∃ k : Nat, k + g = rows.length ∧ i = .int .i64 (k : Int) ∧ Below w.heap.size w wr)
  case atStart => exact ⟨0, by omega, rfl, Below.refl _ _⟩
  case round =>
    obtain ⟨k, hkg, rfl, hB⟩ := hrel
    cases gk with
    | zero =>
      obtain rfl : k = rows.length := by omega
      go_wp2_with fail
      go_ret
      exact ⟨rfl, hB⟩
    | succ g2 =>
      have hlt : k < rows.length := by omega
      have hlt' : (k : Int) < (rows.length : Int) := by omega
      obtain ⟨r, hr⟩ : ∃ r, rows[k]? = some r := ⟨_, List.getElem?_eq_getElem hlt⟩
      obtain ⟨u, g, o, hu, rfl, c0, hru⟩ := (HA.out.below hB).row hr
      obtain ⟨u2, gg, oo, hu2, rfl, c1, hru2⟩ := (HB.out.below hB).row hr
      have hrl : r.length ≤ 1048576 := by have := tot_succ hr; have := tot_le rows (k + 1); omega
      have HE := Lib.hid (fun (W : World) (hW : Below wr.heap.size wr W) => eqIntS_own u u2 r W (hru.below hW) (hru2.below hW) hrl)
      have HC := Lib.hid (And.intro c0 c1)
      have HBB := Lib.hid hB
      clear hu hu2 hru hru2 hr hrl hB
      go_wp2_with fail
      go_region_held3 (fun w' => w'.cell? ⟨g, o + k, none⟩ = some u ∧ w'.cell? ⟨gg, oo + k, none⟩ = some u2) (go_keep)
        ((go_at_call 20; refine (HE.out _ (by go_grown)).mono ?_; rintro e w3 ⟨rfl, b3⟩; have d3 : Below wr.heap.size wr w3 := (Below.refl _ _).drew.trans b3; have k0 : w3.cell? ⟨g, o + k, none⟩ = some u := (d3.cell (World.block_lt_of_cell? wr _ HC.out.1)).trans HC.out.1; have k1 : w3.cell? ⟨gg, oo + k, none⟩ = some u2 := (d3.cell (World.block_lt_of_cell? wr _ HC.out.2)).trans HC.out.2))
      have HB3 := Lib.hid (btrans HBB.out d3)
      clear c0 c1 k0 k1 b3 d3
      go_wp2_with fail
      go_roundg g2
      case measure => omega
      case rel => exact ⟨k + 1, by omega, by go_num, HB3.out⟩
end Go.Proofs.Ytpeobnmfndelhaa.gridl
