/- What a law keeps of the slices that it has got: who owns which blocks; marks turn these alone. -/
import Derived.Test.YtphlpipbhaiijaaB01
import Derived.Test.YtphlpipbhaiijaaB02
import Derived.Handy
import Derived.Deep.DeepCutAuto
import Derived.Deep.RegionHeld3
import Derived.Test.YtphlpipbhaiijaaB06
import Derived.Test.YtphlpipbhaiijaaB05
import Derived.Laws.BitsAllLaws
import Derived.StillTailTactics
namespace Go.Proofs.Ytphlpipbhaiijaa.owns
open Go.RowKit P2 words edges ints

/-- w' is w but for blocks from B on and below S, and new ones -/
structure Turned (B S : Nat) (w w' : World) : Prop where
  os : w'.os = w.os
  tape : w'.tape = w.tape
  output : w'.output = w.output
  size : w.heap.size ≤ w'.heap.size
  block : ∀ k, k < w.heap.size → (k < B ∨ S ≤ k) → w'.heap[k]? = w.heap[k]?
theorem Turned.below {B S N : Nat} {w w' : World} (h : Turned B S w w') (hN : N ≤ B) (hB : N ≤ w.heap.size) : Below N w w' :=
  ⟨h.os, h.tape, h.output, h.size, fun k hk => h.block k (by omega) (.inl (by omega))⟩
theorem turned_of {w w' : World} {B S : Nat} {v : Value} (hg : w.grownBy w' v.ownBlock) (h1 : ∀ k, v.ownBlock = some k → B ≤ k ∧ k < S) : Turned B S w w' :=
  ⟨hg.os, hg.tape, hg.output, hg.size, fun k hk h => hg.block k hk (fun e => by have := h1 k e.symm; omega)⟩

def OwnR (B S : Nat) (w : World) (t : TypeId) (size : Nat) (v : Value) (n : Nat) (xs : List Value) : Prop := w.ownsRow B t size v n xs ∧ ∀ k, v.ownBlock = some k → k < S
abbrev OwnI (B S : Nat) (w : World) (v : Value) (l : List Int) : Prop := OwnR B S w 3 1 v l.length (cellsI l)
abbrev OwnE (B S : Nat) (w : World) (v : Value) (l : List Ed) : Prop := OwnR B S w 104 2 v l.length (cellsE l)

section
variable {w w' : World} {B S B' S' : Nat} {t : TypeId} {size : Nat} {v : Value} {n : Nat} {xs : List Value}
theorem OwnR.new (h : w.ownsRow B t size v n xs) : OwnR B w.heap.size w t size v n xs := ⟨h, fun k hk => (h.lt k hk).2⟩
theorem OwnR.below (h : OwnR B S w t size v n xs) (hb : Below w.heap.size w w') : OwnR B S w' t size v n xs := ⟨own_below h.1 hb, h.2⟩
theorem OwnR.turned (h : OwnR B S w t size v n xs) (ht : Turned B' S' w w') (hd : S ≤ B' ∨ S' ≤ B) : OwnR B S w' t size v n xs := by
  refine ⟨⟨h.1.1, ?_⟩, h.2⟩
  rcases h.1.2 with hn | ⟨g, cap, cur, rfl, hb, hgg, rest⟩
  · exact .inl hn
  · refine .inr ⟨g, cap, cur, rfl, hb, ?_, rest⟩
    have hS := h.2 g rfl
    rw [ht.block g (Array.getElem?_eq_some_iff.1 hgg).1 (by omega)]
    exact hgg
theorem OwnR.reads (h : OwnR B S w t size v n xs) : Reads w size v n xs := Reads.of_own h.1
theorem OwnR.lt (h : OwnR B S w t size v n xs) : ∀ k, v.ownBlock = some k → B ≤ k ∧ k < S := fun k hk => ⟨(h.1.lt k hk).1, h.2 k hk⟩
end
theorem blk_turned {w w' : World} {B S g : Nat} {t : TypeId} {cs : Array Value} (h : Blk w g t cs) (ht : Turned B S w w') (hg : g < B ∨ S ≤ g) : Blk w' g t cs := (ht.block g h.lt hg).trans h

theorem markIntS_own (v : Value) (l : List Int) (B S m : Nat) (w : World) (h : OwnI B S w v l) (hl : m + l.length ≤ 10000000) :
    Calls Try.prog 25 #[v, .int .i64 (m : Int)] w fun e w' => e = .returned (.int .i64 ((m + l.length : Nat) : Int)) ∧ OwnR B S w' 3 1 v l.length (cellsI (marksI m l.length)) ∧ Turned B S w w' :=
  (markIntS_any v l B m w h.1 hl).mono fun _ _ ⟨h1, h2, h3⟩ => ⟨h1, ⟨h2, h.2⟩, turned_of h3 h.lt⟩
theorem heldIntS_own (v : Value) (n B S m : Nat) (w : World) (h : OwnR B S w 3 1 v n (cellsI (marksI m n))) (hl : m + n ≤ 10000000) :
    Calls Try.prog 26 #[v, .int .i64 (m : Int)] w fun e w' => e = .returned (.int .i64 ((m + n : Nat) : Int)) ∧ Below w.heap.size w w' :=
  (heldIntS_any v n m w (by have := h.reads; unfold Ints; rw [marksI_len]; exact this) hl).mono fun _ _ ⟨h1, h2⟩ => ⟨h1, h2 ▸ Below.refl _ _⟩
theorem eqIntS_own (a b : Value) (l : List Int) (w : World) (ha : Ints w a l) (hb : Ints w b l) (hl : l.length ≤ 1048576) :
    Calls Try.prog 21 #[a, b] w fun e w' => e = .returned (.bool true) ∧ Below w.heap.size w w' :=
  (eqIntS_yes a b l w ha hb hl).mono fun _ _ ⟨h1, m, h2⟩ => ⟨h1, h2 ▸ below_drewN (Below.refl _ _) m⟩
theorem markGraph_own (s : Int) (v : Value) (l : List Ed) (B S m : Nat) (w : World) (h : OwnE B S w v l) (hl : m + 2 * l.length ≤ 10000000) :
    Calls Try.prog 24 #[.agg #[.int .i64 s, v], .int .i64 (m : Int)] w fun e w' => e = .returned (.int .i64 ((m + 2 * l.length : Nat) : Int)) ∧ OwnR B S w' 104 2 v l.length (cellsE (marksE m l.length)) ∧ Turned B S w w' :=
  (markGraph_any s v l B m w h.1 hl).mono fun _ _ ⟨h1, h2, h3⟩ => ⟨h1, ⟨h2, h.2⟩, turned_of h3 h.lt⟩

theorem markIntA2S_own (v : Value) (l : List Ed) (B S m : Nat) (w : World) (h : OwnE B S w v l) (hl : m + 2 * l.length ≤ 10000000) :
    Calls Try.prog 60 #[v, .int .i64 (m : Int)] w fun e w' => e = .returned (.int .i64 ((m + 2 * l.length : Nat) : Int)) ∧ OwnR B S w' 104 2 v l.length (cellsE (marksE m l.length)) ∧ Turned B S w w' :=
  (markIntA2S_any v l B m w h.1 hl).mono fun _ _ ⟨h1, h2, h3⟩ => ⟨h1, ⟨h2, h.2⟩, turned_of h3 h.lt⟩
theorem eqIntA2S_own (a b : Value) (l : List Ed) (w : World) (ha : Edges w a l) (hb : Edges w b l) (hl : l.length ≤ 1048576) :
    Calls Try.prog 58 #[a, b] w fun e w' => e = .returned (.bool true) ∧ Below w.heap.size w w' :=
  (eqIntA2S_yes a b l w ha hb hl)

theorem szIntA2S_yes (v : Value) (l : List Ed) (r : Int) (w : World) (h : Edges w v l) (hl : ((l.length : Nat) : Int) ≤ r) (hr : r ≤ 1048576) :
    Calls Try.prog 50 #[v, .int .i64 r] w fun e w' => e = .returned (.int .i64 (r - (l.length : Int))) ∧ w = w' := by
  obtain ⟨A, c, rfl, -⟩ := h.form
  go_enter Try.func50, Try.ntmps50
  go_wp2_with fail
  go_ret
  exact ⟨rfl, rfl⟩
theorem szIntA2S_no (v : Value) (l : List Ed) (r : Int) (w : World) (h : Edges w v l) (hl : r < ((l.length : Nat) : Int)) (hr : 0 ≤ r) (hm : ((l.length : Nat) : Int) ≤ 9223372036854775807) :
    Calls Try.prog 50 #[v, .int .i64 r] w fun e w' => e = .returned (.int .i64 (-1)) ∧ w = w' := by
  obtain ⟨A, c, rfl, -⟩ := h.form
  go_enter Try.func50, Try.ntmps50
  go_wp2_with fail
  go_ret
  exact ⟨rfl, rfl⟩
theorem szGraph_yes (s : Int) (v : Value) (l : List Ed) (r : Int) (w : World) (h : Edges w v l) (hl : ((l.length : Nat) : Int) ≤ r) (hr : r ≤ 1048576) :
    Calls Try.prog 15 #[.agg #[.int .i64 s, v], .int .i64 r] w fun e w' => e = .returned (.int .i64 (r - (l.length : Int))) ∧ Below w.heap.size w w' := by
  obtain ⟨A, c, hv, -⟩ := h.form
  have HS := Lib.hid (szIntA2S_yes v l r _ (h.below ((Below.refl _ _).alloc (Nat.le_refl _) (.cells #[.int .i64 s, v] 24))) hl hr)
  subst hv
  clear h
  go_enter Try.func15, Try.ntmps15
  go_wp2_with (go_at_call 50; refine HS.out.mono ?_; rintro e w' ⟨rfl, rfl⟩)
  go_ret
  exact ⟨rfl, (Below.refl _ _).alloc (Nat.le_refl _) _⟩
theorem szGraph_no (s : Int) (v : Value) (l : List Ed) (r : Int) (w : World) (h : Edges w v l) (hl : r < ((l.length : Nat) : Int)) (hr : 0 ≤ r) (hm : ((l.length : Nat) : Int) ≤ 9223372036854775807) :
    Calls Try.prog 15 #[.agg #[.int .i64 s, v], .int .i64 r] w fun e w' => e = .returned (.int .i64 (-1)) ∧ Below w.heap.size w w' := by
  obtain ⟨A, c, hv, -⟩ := h.form
  have HS := Lib.hid (szIntA2S_no v l r _ (h.below ((Below.refl _ _).alloc (Nat.le_refl _) (.cells #[.int .i64 s, v] 24))) hl hr hm)
  subst hv
  clear h
  go_enter Try.func15, Try.ntmps15
  go_wp2_with (go_at_call 50; refine HS.out.mono ?_; rintro e w' ⟨rfl, rfl⟩)
  go_ret
  exact ⟨rfl, (Below.refl _ _).alloc (Nat.le_refl _) _⟩
end Go.Proofs.Ytphlpipbhaiijaa.owns

/- Slices of slices of integers that a call owns: the rows lie in blocks of their own. -/
namespace Go.Proofs.Ytphlpipbhaiijaa.grid
open Go.RowKit P2 words edges ints owns
set_option linter.unusedVariables false

theorem infoRow : (Try.prog.info? 25).map (fun i => (i.zero, i.size, i.bytes)) = some (some (.slice none 0 0), 1, 24) := by kernel_rfl
theorem tneI : (3 : TypeId) ≠ 25 := by decide
/-- rows of different types lie apart -/
theorem own_apart {w : World} {B B' : Nat} {t t' : TypeId} {size size' n n' : Nat} {v v' : Value} {xs xs' : List Value} (h : w.ownsRow B t size v n xs) (h' : w.ownsRow B' t' size' v' n' xs') (ht : t ≠ t') :
    ∀ k, v.ownBlock = some k → v'.ownBlock ≠ some k := by
  intro k hk hk'
  rcases h.2 with ⟨rfl, _⟩ | ⟨g, cap, cur, rfl, _, hg, _⟩
  · simp [Value.ownBlock] at hk
  · rcases h'.2 with ⟨rfl, _⟩ | ⟨g', cap', cur', rfl, _, hg', _⟩
    · simp [Value.ownBlock] at hk'
    · simp [Value.ownBlock] at hk hk'
      subst hk
      subst hk'
      rw [hg] at hg'
      simp at hg'
      exact ht hg'.2
/-- a slice of slices of the call's own -/
def OwnG (w : World) (B : Nat) (v : Value) (us : List Value) (rows : List (List Int)) : Prop :=
  w.ownsRow B 25 1 v rows.length us ∧ (∀ (i : Nat) u r, us[i]? = some u → rows[i]? = some r → w.ownsRow B 3 1 u r.length (cellsI r)) ∧
    (∀ (i j : Nat) u u' k, i < j → us[i]? = some u → us[j]? = some u' → u.ownBlock = some k → u'.ownBlock ≠ some k)
section
variable {w w' : World} {B : Nat} {v : Value} {us : List Value} {rows : List (List Int)}
theorem OwnG.len (h : OwnG w B v us rows) : us.length = rows.length := by have := h.1.1; omega
theorem OwnG.below (h : OwnG w B v us rows) (hb : Below w.heap.size w w') : OwnG w' B v us rows :=
  ⟨own_below h.1 hb, fun i u r hu hr => own_below (h.2.1 i u r hu hr) hb, h.2.2⟩
theorem OwnG.base (h : OwnG w B v us rows) {C : Nat} (hC : C ≤ B) : OwnG w C v us rows :=
  ⟨own_base h.1 hC, fun i u r hu hr => own_base (h.2.1 i u r hu hr) hC, h.2.2⟩
theorem OwnG.nil (w : World) (B : Nat) : OwnG w B (.slice none 0 0) [] [] :=
  ⟨World.ownsRow_nil _ _ _ _, fun i u r hu => by simp at hu, fun i j u u' k _ hu => by simp at hu⟩
theorem OwnG.row (h : OwnG w B v us rows) {i : Nat} {r : List Int} (hr : rows[i]? = some r) : ∃ u, us[i]? = some u ∧ w.ownsRow B 3 1 u r.length (cellsI r) := by
  have hi := (List.getElem?_eq_some_iff.1 hr).1
  obtain ⟨u, hu⟩ : ∃ u, us[i]? = some u := ⟨_, List.getElem?_eq_getElem (by rw [h.len]; exact hi)⟩
  exact ⟨u, hu, h.2.1 i u r hu hr⟩
/-- one row more, made since w -/
theorem OwnG.push {w5 w6 : World} {u v6 : Value} {r : List Int} {o : Obj} {m : Nat} (h : OwnG w B v us rows) (hb : Below w.heap.size w w5) (hB : B ≤ w.heap.size) (hu : w5.ownsRow w.heap.size 3 1 u r.length (cellsI r))
    (hown : w6.ownsRow B 25 1 v6 (rows.length + m) (us ++ [u])) (hm : m = 1) (hg : (w5.alloc o).grownBy w6 v.ownBlock) : OwnG w6 B v6 (us ++ [u]) (rows ++ [r]) := by
  subst hm
  have h5 := h.below hb
  have hlen := h.len
  have apart : ∀ {C : Nat} {x : Value} {q : List Int}, w5.ownsRow C 3 1 x q.length (cellsI q) → x.ownBlock = none ∨ x.ownBlock ≠ v.ownBlock := fun {C x q} ho => by
    cases hh : x.ownBlock with
    | none => exact .inl rfl
    | some k => exact .inr (fun e => own_apart ho h5.1 tneI k hh e.symm)
  refine ⟨by rw [List.length_append]; exact hown, ?_, ?_⟩
  · intro i u' r' hu' hr'
    by_cases hi : i < rows.length
    · rw [List.getElem?_append_left (by omega)] at hu'
      rw [List.getElem?_append_left hi] at hr'
      have ho := h5.2.1 i u' r' hu' hr'
      exact (ho.alloc o).kept hg (apart ho)
    · have hi' : i = rows.length := by
        have := (List.getElem?_eq_some_iff.1 hr').1
        simp at this; omega
      subst hi'
      rw [List.getElem?_append_right (by omega), hlen, Nat.sub_self] at hu'
      rw [List.getElem?_append_right (Nat.le_refl _), Nat.sub_self] at hr'
      simp at hu' hr'
      subst hu'
      subst hr'
      exact own_base ((hu.alloc o).kept hg (apart hu)) hB
  · intro i j x x' k hij hx hx' hk
    by_cases hj : j < us.length
    · rw [List.getElem?_append_left (by omega)] at hx
      rw [List.getElem?_append_left hj] at hx'
      exact h.2.2 i j x x' k hij hx hx' hk
    · have hj' : j = us.length := by
        have := (List.getElem?_eq_some_iff.1 hx').1
        simp at this; omega
      subst hj'
      rw [List.getElem?_append_left hij] at hx
      rw [List.getElem?_append_right (Nat.le_refl _), Nat.sub_self] at hx'
      simp at hx'
      subst hx'
      obtain ⟨r', hr'⟩ : ∃ r', rows[i]? = some r' := ⟨_, List.getElem?_eq_getElem (by omega)⟩
      have h1 := ((h.2.1 i x r' hx hr').lt k hk).2
      intro hk'
      have h2 := (hu.lt k hk').1
      omega
end
end Go.Proofs.Ytphlpipbhaiijaa.grid

/- A slice of slices of integers that reads as rows. -/
namespace Go.Proofs.Ytphlpipbhaiijaa.gridr
open Go.RowKit P2 words
set_option linter.unusedVariables false

/-- a slice of slices that reads as rows -/
def ReadsG (w : World) (v : Value) (us : List Value) (rows : List (List Int)) : Prop :=
  Reads w 1 v rows.length us ∧ us.length = rows.length ∧ ∀ (i : Nat) u r, us[i]? = some u → rows[i]? = some r → Ints w u r
theorem ReadsG.below {w w' : World} {v : Value} {us : List Value} {rows : List (List Int)} (h : ReadsG w v us rows) (hb : Below w.heap.size w w') : ReadsG w' v us rows :=
  ⟨h.1.below hb, h.2.1, fun i u r hu hr => (h.2.2 i u r hu hr).below hb⟩
theorem ReadsG.row {w : World} {A : Option Addr} {n c : Nat} {us : List Value} {rows : List (List Int)} (h : ReadsG w (.slice A n c) us rows) {i : Nat} {r : List Int} (hr : rows[i]? = some r) :
    ∃ u g o, us[i]? = some u ∧ A = some ⟨g, o, none⟩ ∧ w.cell? ⟨g, o + i, none⟩ = some u ∧ Ints w u r := by
  have hi := (List.getElem?_eq_some_iff.1 hr).1
  obtain ⟨u, hu⟩ : ∃ u, us[i]? = some u := ⟨_, List.getElem?_eq_getElem (by rw [h.2.1]; exact hi)⟩
  obtain ⟨A', c', e, hx⟩ := h.1
  cases e
  obtain ⟨g, o, rfl, _, hj⟩ := hx (by omega)
  exact ⟨u, g, o, hu, rfl, hj i u hu, h.2.2 i u r hu hr⟩

end Go.Proofs.Ytphlpipbhaiijaa.gridr

/- What the laws do with slices of slices of integers: compare, mark, look at the marks. -/
namespace Go.Proofs.Ytphlpipbhaiijaa.gridl
open Go.RowKit P2 words edges ints owns grid gridr
set_option linter.unusedVariables false

theorem readsG_of_own {w : World} {B : Nat} {v : Value} {us : List Value} {rows : List (List Int)} (h : OwnG w B v us rows) : ReadsG w v us rows :=
  ⟨Reads.of_own h.1, h.len, fun i u r hu hr => Reads.of_own (h.2.1 i u r hu hr)⟩
def OwnGR (B S : Nat) (w : World) (v : Value) (us : List Value) (rows : List (List Int)) : Prop :=
  OwnG w B v us rows ∧ (∀ k, v.ownBlock = some k → k < S) ∧ ∀ (i : Nat) u k, us[i]? = some u → u.ownBlock = some k → k < S
section
variable {w w' : World} {B S B' S' : Nat} {v : Value} {us : List Value} {rows : List (List Int)}
theorem own_turned {t : TypeId} {size n : Nat} {xs : List Value} (h : w.ownsRow B t size v n xs) (hS : ∀ k, v.ownBlock = some k → k < S) (ht : Turned B' S' w w') (hd : S ≤ B' ∨ S' ≤ B) : w'.ownsRow B t size v n xs :=
  (OwnR.turned (S := S) ⟨h, hS⟩ ht hd).1
theorem OwnGR.new (h : OwnG w B v us rows) : OwnGR B w.heap.size w v us rows :=
  ⟨h, fun k hk => (h.1.lt k hk).2, fun i u k hu hk => by
    obtain ⟨r, hr⟩ : ∃ r, rows[i]? = some r := ⟨_, List.getElem?_eq_getElem (by have := (List.getElem?_eq_some_iff.1 hu).1; have := h.len; omega)⟩
    exact ((h.2.1 i u r hu hr).lt k hk).2⟩
theorem OwnGR.below (h : OwnGR B S w v us rows) (hb : Below w.heap.size w w') : OwnGR B S w' v us rows := ⟨h.1.below hb, h.2⟩
theorem OwnGR.turned (h : OwnGR B S w v us rows) (ht : Turned B' S' w w') (hd : S ≤ B' ∨ S' ≤ B) : OwnGR B S w' v us rows :=
  ⟨⟨own_turned h.1.1 h.2.1 ht hd, fun i u r hu hr => own_turned (h.1.2.1 i u r hu hr) (fun k hk => h.2.2 i u k hu hk) ht hd, h.1.2.2⟩, h.2⟩
theorem OwnGR.reads (h : OwnGR B S w v us rows) : ReadsG w v us rows := readsG_of_own h.1
/-- one row is written anew -/
theorem OwnG.mark {k : Nat} {u : Value} {r r' : List Int} (h : OwnG w B v us rows) (hu : us[k]? = some u) (hr : rows[k]? = some r) (hn : w'.ownsRow B 3 1 u r'.length (cellsI r')) (hl : r'.length = r.length)
    (hg : w.grownBy w' u.ownBlock) : OwnG w' B v us (rows.set k r') := by
  have hu0 := h.2.1 k u r hu hr
  have hk := (List.getElem?_eq_some_iff.1 hr).1
  refine ⟨?_, ?_, h.2.2⟩
  · rw [List.length_set]
    refine h.1.kept hg ?_
    cases hv : v.ownBlock with
    | none => exact .inl rfl
    | some b => exact .inr fun e => own_apart hu0 h.1 tneI b e.symm hv
  · intro i x q hx hq
    by_cases e : i = k
    · subst e
      rw [hu] at hx; cases hx
      rw [List.getElem?_set_self hk] at hq; cases hq
      exact hn
    · rw [List.getElem?_set_ne (fun hh => e hh.symm)] at hq
      refine (h.2.1 i x q hx hq).kept hg ?_
      cases hv : x.ownBlock with
      | none => exact .inl rfl
      | some b =>
        refine .inr fun e2 => ?_
        rcases Nat.lt_or_gt_of_ne e with hlt | hlt
        · exact h.2.2 i k x u b hlt hx hu hv e2.symm
        · exact h.2.2 k i u x b hlt hu hx e2.symm hv
theorem Turned.trans {a b c : World} (h : Turned B S a b) (k : Turned B S b c) : Turned B S a c :=
  ⟨k.os.trans h.os, k.tape.trans h.tape, k.output.trans h.output, Nat.le_trans h.size k.size, fun i hi hd => (k.block i (Nat.lt_of_lt_of_le hi h.size) hd).trans (h.block i hi hd)⟩
theorem Turned.refl (B S : Nat) (w : World) : Turned B S w w := ⟨rfl, rfl, rfl, Nat.le_refl _, fun _ _ _ => rfl⟩
end

def tot (rows : List (List Int)) : Nat := (rows.map List.length).sum
/-- numbers one after the other, in rows as long as those -/
def marksG (m : Nat) : List (List Int) → List (List Int)
  | [] => []
  | r :: rs => marksI m r.length :: marksG (m + r.length) rs
theorem marksG_len : ∀ (rows : List (List Int)) (m : Nat), (marksG m rows).length = rows.length
  | [], _ => rfl
  | r :: rs, m => by simp [marksG, marksG_len rs]
theorem marksG_at : ∀ {rows : List (List Int)} {m k : Nat} {r : List Int}, rows[k]? = some r → (marksG m rows)[k]? = some (marksI (m + tot (rows.take k)) r.length)
  | [], _, _, _, h => by simp at h
  | a :: rs, m, 0, r, h => by
    simp at h; subst h; simp [marksG, tot]
  | a :: rs, m, k + 1, r, h => by
    simp at h
    have := marksG_at (m := m + a.length) h
    simp only [marksG, List.getElem?_cons_succ, this, tot, List.take_succ_cons, List.map_cons, List.sum_cons, Nat.add_assoc]
theorem marksG_tot : ∀ (rows : List (List Int)) (m k : Nat), tot ((marksG m rows).take k) = tot (rows.take k)
  | [], _, _ => by simp [marksG]
  | r :: rs, m, 0 => rfl
  | r :: rs, m, k + 1 => by
    have := marksG_tot rs (m + r.length) k
    simp only [marksG, tot, List.take_succ_cons, List.map_cons, List.sum_cons, marksI_len] at this ⊢
    omega
theorem tot_succ {rows : List (List Int)} {k : Nat} {r : List Int} (h : rows[k]? = some r) : tot (rows.take (k + 1)) = tot (rows.take k) + r.length := by
  unfold tot; rw [List.take_add_one, h]; simp
theorem tot_le (rows : List (List Int)) (k : Nat) : tot (rows.take k) ≤ tot rows := by
  have h : tot rows = tot (rows.take k) + tot (rows.drop k) := by
    unfold tot; rw [← List.sum_append, ← List.map_append, List.take_append_drop]
  omega
/-- the first k rows marked -/
def markTo (m : Nat) (rows : List (List Int)) (k : Nat) : List (List Int) := (marksG m rows).take k ++ rows.drop k
theorem markTo_len {m k : Nat} {rows : List (List Int)} (h : k ≤ rows.length) : (markTo m rows k).length = rows.length := by
  unfold markTo; rw [List.length_append, List.length_take, marksG_len, List.length_drop]; omega
theorem markTo_zero (m : Nat) (rows : List (List Int)) : markTo m rows 0 = rows := by simp [markTo]
theorem markTo_all (m : Nat) (rows : List (List Int)) : markTo m rows rows.length = marksG m rows := by
  unfold markTo; rw [List.drop_length, List.append_nil, ← marksG_len rows m, List.take_length]
theorem markTo_at {m k : Nat} {rows : List (List Int)} {r : List Int} (h : rows[k]? = some r) : (markTo m rows k)[k]? = some r := by
  have hk := (List.getElem?_eq_some_iff.1 h).1
  unfold markTo
  rw [List.getElem?_append_right (by rw [List.length_take, marksG_len]; omega), List.length_take, marksG_len, Nat.min_eq_left (by omega), Nat.sub_self, List.getElem?_drop]
  exact h
theorem markTo_set {m k : Nat} {rows : List (List Int)} {r : List Int} (h : rows[k]? = some r) : (markTo m rows k).set k (marksI (m + tot (rows.take k)) r.length) = markTo m rows (k + 1) := by
  have hk := (List.getElem?_eq_some_iff.1 h).1
  have hl : ((marksG m rows).take k).length = k := by rw [List.length_take, marksG_len]; omega
  unfold markTo
  rw [List.set_append_right _ _ (by omega), hl, Nat.sub_self, List.drop_eq_getElem_cons hk, List.set_cons_zero, List.take_add_one, marksG_at h]
  simp



set_option maxHeartbeats 1000000 in
theorem eqIntSS_own (a b : Value) (us ub : List Value) (rows : List (List Int)) (w : World) (ha : ReadsG w a us rows) (hb : ReadsG w b ub rows) (hl : tot rows ≤ 1048576) (hn : rows.length ≤ 1048576) :
    Calls Try.prog 47 #[a, b] w fun e w' => e = .returned (.bool true) ∧ Below w.heap.size w w' := by
  have HA := Lib.hid ha
  have HB := Lib.hid hb
  obtain ⟨A, c, rfl, -⟩ := ha.1
  obtain ⟨A2, c2, rfl, -⟩ := hb.1
  have hself : ((rows.length : Int) != (rows.length : Int)) = false := by simp
  clear ha hb
  go_enter Try.func47, Try.ntmps47
  go_wp2_with fail
  go_loopg [5] rows.length (fun g i wr => ∃ k : Nat, k + g = rows.length ∧ i = .int .i64 (k : Int) ∧ Below w.heap.size w wr)
  case atStart => exact ⟨0, by omega, rfl, Below.refl _ _⟩
  case round =>
    obtain ⟨k, hkg, rfl, hB⟩ := hrel
    cases gk with
    | zero =>
      obtain rfl : k = rows.length := by omega
      go_wp2_with fail
      go_ret
      exact ⟨rfl, hB⟩
    | succ g2 =>
      have hlt : k < rows.length := by omega
      have hlt' : (k : Int) < (rows.length : Int) := by omega
      obtain ⟨r, hr⟩ : ∃ r, rows[k]? = some r := ⟨_, List.getElem?_eq_getElem hlt⟩
      obtain ⟨u, g, o, hu, rfl, c0, hru⟩ := (HA.out.below hB).row hr
      obtain ⟨u2, gg, oo, hu2, rfl, c1, hru2⟩ := (HB.out.below hB).row hr
      have hrl : r.length ≤ 1048576 := by have := tot_succ hr; have := tot_le rows (k + 1); omega
      have HE := Lib.hid (fun (W : World) (hW : Below wr.heap.size wr W) => eqIntS_own u u2 r W (hru.below hW) (hru2.below hW) hrl)
      have HC := Lib.hid (And.intro c0 c1)
      have HBB := Lib.hid hB
      clear hu hu2 hru hru2 hr hrl hB
      go_wp2_with fail
      go_region_held3 (fun w' => w'.cell? ⟨g, o + k, none⟩ = some u ∧ w'.cell? ⟨gg, oo + k, none⟩ = some u2) (go_keep)
        ((go_at_call 21; refine (HE.out _ (by go_grown)).mono ?_; rintro e w3 ⟨rfl, b3⟩; have d3 : Below wr.heap.size wr w3 := (Below.refl _ _).drew.trans b3; have k0 : w3.cell? ⟨g, o + k, none⟩ = some u := (d3.cell (World.block_lt_of_cell? wr _ HC.out.1)).trans HC.out.1; have k1 : w3.cell? ⟨gg, oo + k, none⟩ = some u2 := (d3.cell (World.block_lt_of_cell? wr _ HC.out.2)).trans HC.out.2))
      have HB3 := Lib.hid (btrans HBB.out d3)
      clear c0 c1 k0 k1 b3 d3
      go_wp2_with fail
      go_roundg g2
      case measure => omega
      case rel => exact ⟨k + 1, by omega, by go_num, HB3.out⟩
end Go.Proofs.Ytphlpipbhaiijaa.gridl

/- The contract of the program's leastCosts. -/
namespace Go.Proofs.Ytphlpipbhaiijaa.costs
open Go.RowKit P2 words edges ints good adjs fns sets rets covs reach bags bitsI fronts
set_option linter.unusedVariables false

def maxI : Int := 9223372036854775807
def rowF (N : Nat) (C : Nat → Int) : List Int := (List.range N).map C
theorem rowF_len (N : Nat) (C : Nat → Int) : (rowF N C).length = N := by simp [rowF]
theorem rowF_at {N i : Nat} {C : Nat → Int} (h : i < N) : (rowF N C)[i]? = some (C i) := by simp [rowF, h]
def upd (C : Nat → Int) (i : Nat) (v : Int) : Nat → Int := fun j => if j = i then v else C j
theorem upd_at (C : Nat → Int) (i : Nat) (v : Int) : upd C i v i = v := by simp [upd]
theorem upd_ne (C : Nat → Int) {i j : Nat} (v : Int) (h : j ≠ i) : upd C i v j = C j := by simp [upd, h]
theorem upd_upd (C : Nat → Int) (i : Nat) (v u : Int) : upd (upd C i v) i u = upd C i u := by funext j; unfold upd; split <;> rfl
theorem upd_self (C : Nat → Int) (i : Nat) : upd C i (C i) = C := by funext j; unfold upd; split <;> simp_all
theorem rowF_set (N : Nat) (C : Nat → Int) (i : Nat) (v : Int) : (rowF N C).set i v = rowF N (upd C i v) := by
  unfold rowF
  apply List.ext_getElem?
  intro j
  rw [List.getElem?_set]
  by_cases hj : i = j
  · subst hj
    by_cases h : i < N <;> simp [h, upd_at]
  · rw [if_neg hj]
    by_cases h : j < N
    · simp [h, upd_ne C v (fun e => hj e.symm)]
    · simp [h]
theorem rowF_const (N : Nat) (v : Int) : List.replicate N v = rowF N (fun _ => v) := by unfold rowF; rw [List.map_const']; simp
theorem rowF_cells (N : Nat) (C : Nat → Int) (i : Nat) (v : Int) : (cellsI (rowF N C)).set i (.int .i64 v) = cellsI (rowF N (upd C i v)) := by rw [← rowF_set]; simp [cellsI, List.map_set]

theorem min_if (a b v : Int) : (if (if a < b then b else a) < v then (if a < b then b else a) else v) = min v (max a b) := by
  split <;> split <;> omega
/-- down to a set: those above it have their least costs, the others the greatest number -/
def LcUp (n : Nat) (cost : Nat → Nat → Int) (nil : Int) (g : Nat) (C : Nat → Int) : Prop :=
  C (2 ^ n - 1) = nil ∧ (∀ c, g ≤ c → c < 2 ^ n - 1 → LcAt n cost C c) ∧ (∀ c, c < g → C c = maxI) ∧ g ≤ 2 ^ n - 1 ∧ ∀ c, g ≤ c → c < 2 ^ n → C c ≤ 100
/-- the least so far of a set's -/
def PtAt (n : Nat) (cost : Nat → Nat → Int) (C : Nat → Int) (c x : Nat) (v : Int) : Prop :=
  (v = maxI ∨ ∃ y, y < x ∧ y < n ∧ c.testBit y = false ∧ v = max (cost c y) (C (c ||| 2 ^ y))) ∧ ∀ y, y < x → y < n → c.testBit y = false → v ≤ max (cost c y) (C (c ||| 2 ^ y))
theorem PtAt.start (n : Nat) (cost : Nat → Nat → Int) (C : Nat → Int) (c : Nat) : PtAt n cost C c 0 maxI := ⟨.inl rfl, fun y h => by omega⟩
theorem PtAt.skip {n : Nat} {cost : Nat → Nat → Int} {C : Nat → Int} {c x : Nat} {v : Int} (h : PtAt n cost C c x v) (hb : c.testBit x = true) : PtAt n cost C c (x + 1) v := by
  refine ⟨?_, fun y hy hn hby => ?_⟩
  · rcases h.1 with h1 | ⟨y, h1, h2⟩
    · exact .inl h1
    · exact .inr ⟨y, by omega, h2⟩
  · by_cases e : y = x
    · subst e; rw [hb] at hby; cases hby
    · exact h.2 y (by omega) hn hby
theorem PtAt.take {n : Nat} {cost : Nat → Nat → Int} {C : Nat → Int} {c x : Nat} {v u : Int} (h : PtAt n cost C c x v) (hx : x < n) (hb : c.testBit x = false) (hu : u = max (cost c x) (C (c ||| 2 ^ x))) : PtAt n cost C c (x + 1) (min v u) := by
  refine ⟨?_, fun y hy hn hby => ?_⟩
  · by_cases hvu : v ≤ u
    · rw [Int.min_eq_left hvu]
      rcases h.1 with h1 | ⟨y, h1, h2⟩
      · exact .inl h1
      · exact .inr ⟨y, by omega, h2⟩
    · rw [Int.min_eq_right (by omega)]
      exact .inr ⟨x, by omega, hx, hb, hu⟩
  · by_cases e : y = x
    · subst e; omega
    · have := h.2 y (by omega) hn hby; omega
theorem PtAt.all {n : Nat} {cost : Nat → Nat → Int} {nil : Int} {C : Nat → Int} {c : Nat} {v : Int} (hn : n ≤ 8) (hL : LcUp n cost nil (c + 1) C) (h : PtAt n cost C c n v) (hcost : ∀ g x, cost g x ≤ 100) (hc : c < 2 ^ n - 1) : LcUp n cost nil c (upd C c v) := by
  have hp := pow8 hn
  obtain ⟨h1, h2, h3, h4, h5⟩ := hL
  have hor : ∀ y, y < n → c.testBit y = false → c < c ||| 2 ^ y ∧ c ||| 2 ^ y < 2 ^ n := fun y hy hb => ⟨or_gt (by omega) (by omega) hb, or_lt (by omega) hy⟩
  obtain ⟨z, hz, hzb⟩ := out_bit hn hc
  have hz1 := h.2 z hz hz hzb
  have hz2 := hor z hz hzb
  have hz3 := h5 _ hz2.1 hz2.2
  have hz4 := hcost c z
  have hv : v ≤ 100 := by omega
  refine ⟨by rw [upd_ne C v (by omega)]; exact h1, fun d hd hd2 => ?_, fun d hd => by rw [upd_ne C v (by omega)]; exact h3 d (by omega), by omega, fun d hd hd2 => ?_⟩
  · by_cases e : d = c
    · subst e
      refine ⟨?_, fun y hy hb => ?_⟩
      · rcases h.1 with h6 | ⟨y, _, h6, h7, h8⟩
        · exfalso; unfold maxI at h6; omega
        · refine ⟨y, h6, h7, ?_⟩
          rw [upd_at, upd_ne C v (by have := hor y h6 h7; omega)]; exact h8
      · rw [upd_at, upd_ne C v (by have := hor y hy hb; omega)]; exact h.2 y hy hy hb
    · have hdo : ∀ y, y < n → d.testBit y = false → d ||| 2 ^ y ≠ c := fun y hy hb => by have := or_gt (x := y) (by omega : d < 256) (by omega) hb; omega
      obtain ⟨⟨x, hx, hb, hC⟩, hle⟩ := h2 d (by omega) hd2
      refine ⟨⟨x, hx, hb, ?_⟩, fun y hy hby => ?_⟩
      · rw [upd_ne C v e, upd_ne C v (hdo x hx hb)]; exact hC
      · rw [upd_ne C v e, upd_ne C v (hdo y hy hby)]; exact hle y hy hby
  · by_cases e : d = c
    · subst e; rw [upd_at]; exact hv
    · rw [upd_ne C v e]; exact h5 d (by omega) hd2
set_option maxHeartbeats 4000000 in
set_option maxRecDepth 100000 in
theorem leastCosts_any (n b : Nat) (nil : Int) (cost : Nat → Nat → Int) (fid : FuncId) (w : World) (hn : n ≤ 8) (hnil : nil ≤ 100) (hcost : ∀ g x, cost g x ≤ 100)
    (hent : ∀ (args : Array Value) (W : World), (callFunc fid args).run Try.prog W = .ok (.enter fid args) W)
    (HC : ∀ (W : World) (g x : Nat), Below w.heap.size w W → g < 2 ^ n → x < n → g.testBit x = false → Calls Try.prog fid #[.int .u64 (g : Int), .int .i64 (x : Int), .pointer (some ⟨b, 0, none⟩)] W fun e w' => e = .returned (.int .i64 (cost g x)) ∧ ∃ m, w' = W.drewN m) :
    Calls Try.prog 127 #[.int .i64 (n : Int), .int .i64 nil, .func (.func fid) #[] #[.pointer (some ⟨b, 0, none⟩)]] w fun e w' => ∃ A c C, e = .returned (.slice A (2 ^ n) c) ∧ w'.ownsRow w.heap.size 3 1 (.slice A (2 ^ n) c) (2 ^ n) (cellsI (rowF (2 ^ n) C)) ∧ LcUp n cost nil 0 C ∧ Below w.heap.size w w' := by
  have hp := pow8 hn
  have hp0 := Nat.two_pow_pos n
  obtain ⟨N, hN⟩ : ∃ N, N = 2 ^ n := ⟨_, rfl⟩
  have hsh : IntKind.i64.wrap ((2 : Int) ^ n) = (N : Int) := by
    rw [hN, show ((2 : Int) ^ n) = ((2 ^ n : Nat) : Int) from by simp]
    exact IntWalk.i64_in _ (by omega)
  have HRP := Lib.hid (fun (W : World) (g0 : Nat) (hx : W.cell? ⟨g0, 0, none⟩ = some (.int .i64 9223372036854775807)) => reps.repeat_big 9223372036854775807 g0 (2 ^ n) W hp hp0 (reps.mul_pow n hn) hx)
  simp only [List.length_replicate] at HRP
  rw [← hN] at HC HRP hp hp0 ⊢
  have HN := Lib.hid hN
  have HCL := Lib.hid HC
  have HCO := Lib.hid hcost
  have hb0 : Below w.heap.size w (w.alloc (.cells #[.int .i64 9223372036854775807] 3)) := (Below.refl _ _).alloc (Nat.le_refl _) _
  have HB0 := Lib.hid hb0
  have HX0 := Lib.hid ((Blk.new w 3 #[.int .i64 9223372036854775807]).cell 0)
  have hn0 : (0 : Int) ≤ (n : Int) := by omega
  clear HC hcost hb0 hN
  go_enter Try.func127, Try.ntmps127
  go_wp2_with fail
  refine (HRP.out _ _ HX0.out).mono ?_
  rintro e w1 ⟨A1, c1, rfl, o1, b1⟩
  have HB1 := Lib.hid (btrans HB0.out b1)
  have o2 := own_base o1 HB0.out.size
  rw [show cellsI (List.replicate N (9223372036854775807 : Int)) = cellsI (rowF N (fun _ => maxI)) from by rw [rowF_const]; rfl] at o2
  obtain ⟨g1, rfl⟩ : ∃ g1, A1 = some ⟨g1, 0, none⟩ := by
    rcases o2.2 with ⟨_, h1⟩ | ⟨g, cap, cur, h1, _⟩
    · omega
    · cases h1; exact ⟨g, rfl⟩
  have f0 := o2.cellAt (N - 1) (by omega)
  have hfl : (cellsI (rowF N (fun _ => maxI)))[N - 1]? = some (.int .i64 maxI) := cellsI_at (rowF_at (by omega))
  rw [hfl] at f0
  have z0 := o2.frozenAt (N - 1)
  have hN1 : (N : Int) - 1 = ((N - 1 : Nat) : Int) := by omega
  have hN2 : IntKind.i64.wrap ((N : Int) - 1) = ((N - 1 : Nat) : Int) := by rw [hN1]; exact IntWalk.i64_in _ (by omega)
  have hN3 : ((N - 1 : Nat) : Int) < (N : Int) := by omega
  have HO1 := Lib.hid o2
  clear o1 b1 o2 hfl HRP HX0 HB0
  go_wp2_with fail
  have hST := HO1.out.stored (N - 1) (.int .i64 nil)
  have HO2 : Hid ((w1.setCell ⟨g1, N - 1, none⟩ (.int .i64 nil)).ownsRow w.heap.size 3 1 (.slice (some ⟨g1, 0, none⟩) N c1) N (cellsI (rowF N (upd (fun _ => maxI) (N - 1) nil)))) := by
    have h_ := hST.1
    rw [rowF_cells] at h_
    exact h_
  have hgl := (HO1.out.lt g1 rfl).1
  have HB2 := Lib.hid (HB1.out.setCell (p := ⟨g1, N - 1, none⟩) hgl (.int .i64 nil))
  have HL0 : Hid (LcUp n cost nil (N - 1) (upd (fun _ => maxI) (N - 1) nil)) := by
    have e := HN.out
    refine ⟨by rw [← e, upd_at], fun c h1 h2 => by omega, fun c h1 => upd_ne _ _ (by omega), by omega, fun c h1 h2 => ?_⟩
    obtain rfl : c = N - 1 := by omega
    rw [upd_at]; exact hnil
  clear hST f0 z0 HO1 HB1
  go_loopg [8] (N - 1) (fun g iv wr => ∃ C : Nat → Int, iv = .int .i64 ((g : Int) - 1) ∧ wr.ownsRow w.heap.size 3 1 (.slice (some ⟨g1, 0, none⟩) N c1) N (cellsI (rowF N C)) ∧ Hid (LcUp n cost nil g C) ∧ Below w.heap.size w wr)
  case atStart => exact ⟨_, by rw [show (((N - 1 : Nat) : Int) - 1) = (N : Int) - 2 from by omega], HO2.out, HL0, HB2.out⟩
  case round =>
    clear HO2 HL0 HB2
    obtain ⟨C, rfl, hrow, hlc, hB⟩ := hrel
    cases gk with
    | zero =>
      have HR := Lib.hid hrow
      have HB := Lib.hid hB
      clear hrow hB
      go_wp2_with fail
      go_ret
      exact ⟨_, _, C, rfl, HR.out, hlc.out, HB.out⟩
    | succ i =>
      have hi : i + 1 ≤ N - 1 := by have := hlc.out.2.2.2.1; have := HN.out; omega
      rw [show (((i + 1 : Nat) : Int) - 1) = (i : Int) from by omega]
      have hi0 : (0 : Int) ≤ (i : Int) := by omega
      have hiN : (i : Int) < (N : Int) := by omega
      have hcv : IntKind.u64.wrap (i : Int) = (i : Int) := by rw [IntKind.wrap_u64]; omega
      have hiM : C i = maxI := hlc.out.2.2.1 i (by omega)
      have HR0 : Hid (wr.ownsRow w.heap.size 3 1 (.slice (some ⟨g1, 0, none⟩) N c1) N (cellsI (rowF N (upd C i maxI)))) := by
        rw [← hiM, upd_self]; exact hrow
      have HB := Lib.hid hB
      clear hrow hB hiM
      go_wp2_with fail
      go_loopg [31] n (fun g xv wr => ∃ (x : Nat) (v : Int), x + g = n ∧ xv = .int .i64 (x : Int) ∧ wr.ownsRow w.heap.size 3 1 (.slice (some ⟨g1, 0, none⟩) N c1) N (cellsI (rowF N (upd C i v))) ∧ Hid (PtAt n cost C i x v) ∧ Below w.heap.size w wr)
      case atStart => exact ⟨0, maxI, by omega, rfl, HR0.out, PtAt.start n cost C i, HB.out⟩
      case round =>
        clear HR0 HB
        obtain ⟨x, v, hxg, rfl, hrow, hpt, hB⟩ := hrel
        cases gk with
        | zero =>
          obtain rfl : x = n := by omega
          have HL9 : Hid (LcUp x cost nil i (upd C i v)) := PtAt.all hn hlc.out hpt.out HCO.out (by have := HN.out; omega)
          have HR := Lib.hid hrow
          have HB := Lib.hid hB
          clear hrow hB hpt
          go_wp2_with fail
          go_roundg i
          case measure => omega
          case rel => exact ⟨_, by go_num, HR.out, HL9, HB.out⟩
        | succ g4 =>
          have hlt : x < n := by omega
          have hlt' : (x : Int) < (n : Int) := by omega
          have HH := Lib.hid (has_any i x wr (by omega) (by omega))
          cases hb : i.testBit x with
          | true =>
            have HP := Lib.hid (hpt.out.skip hb)
            rw [hb] at HH
            have HR := Lib.hid hrow
            have HB := Lib.hid hB
            clear hb hrow hB hpt
            go_wp2_with fail
            refine HH.out.mono ?_
            rintro e w' ⟨rfl, rfl⟩
            go_wp2_with fail
            go_roundg g4
            case measure => omega
            case rel => exact ⟨x + 1, v, by omega, by go_num, HR.out, HP, HB.out⟩
          | false =>
            rw [hb] at HH
            have hNe := HN.out
            have hq1 := or_gt (by omega : i < 256) (by omega : x < 8) hb
            have hq2 := or_lt (n := n) (by omega : i < 2 ^ n) hlt
            rw [← hNe] at hq2
            have hor := or_walk i x (by omega) (by omega)
            have HCA := Lib.hid (HCL.out wr.drew i x hB.drew (by omega) hlt hb)
            have HP := Lib.hid (hpt.out.take hlt hb rfl)
            have f1 := hrow.cellAt i (by omega)
            rw [cellsI_at (rowF_at (by omega)), upd_at] at f1
            have z1 := hrow.frozenAt i
            have f2 := hrow.cellAt (i ||| 2 ^ x) (by omega)
            rw [cellsI_at (rowF_at hq2), upd_ne C v (by omega)] at f2
            have HR := Lib.hid hrow
            have HB := Lib.hid hB
            clear hb hrow hB hpt hNe
            generalize hqe : i ||| 2 ^ x = q at *
            generalize hue : C q = u at *
            generalize hce : cost i x = cc at *
            have hq2' : (q : Int) < (N : Int) := by omega
            have hq0 : (0 : Int) ≤ (q : Int) := by omega
            have HQI : Hid (q ≠ i) := by show _ ≠ _; omega
            have HK2 : Hid (∀ (W : World) (y : Value), W.cell? ⟨g1, q, none⟩ = some (.int .i64 u) → (W.setCell ⟨g1, i, none⟩ y).cell? ⟨g1, q, none⟩ = some (.int .i64 u)) := fun W y hW => by
              rw [World.cell?_setCell_other (h := fun e => HQI.out (congrArg Addr.off e).symm)]; exact hW
            have HQE := Lib.hid hqe
            have HUE := Lib.hid hue
            have HCE := Lib.hid hce
            clear hqe hue hce hq1
            go_wp2_with fail
            refine HH.out.mono ?_
            rintro e w' ⟨rfl, rfl⟩
            go_wp2_with fail
            refine wp_region_held_drew (S := (fun w' : World => w'.cell? ⟨g1, q, none⟩ = some (.int .i64 u))) (by kernel_rfl) (by (try dsimp only); simp [*]) (fun hHeld => ?_)
            change wpAnyH _ _ _ _ _ _ #[false, false, false, false, false, false, false, false, false, false, false, false, false, false, false, false, false, false, false, false, false] _ _
            refine wpAnyH_take (i := 0) (oi := ⟨some 38, _, _, _, _, _⟩) (v := ?_) rfl (by kernel_rfl) (by kernel_rfl) (by kernel_rfl) (fun _ _ _ h => h) (Or.inl ⟨by rfl, ?_⟩) (by assumption) ?_
            rotate_left
            · (intro w hSw; (try dsimp only at hSw); go_simp; (try (with_reducible rfl)))
            try simp only [Act.put, List.setIfInBounds_toArray, List.set_cons_zero, List.set_cons_succ]
            refine wpAnyH_take (i := 1) (oi := ⟨some 39, _, _, _, _, _⟩) (v := ?_) rfl (by kernel_rfl) (by kernel_rfl) (by kernel_rfl) (fun _ _ _ h => h) (Or.inl ⟨by rfl, ?_⟩) (by assumption) ?_
            rotate_left
            · (intro w hSw; (try dsimp only at hSw); go_simp; (try (with_reducible rfl)))
            try simp only [Act.put, List.setIfInBounds_toArray, List.set_cons_zero, List.set_cons_succ]
            refine wpAnyH_take (i := 2) (oi := ⟨some 40, _, _, _, _, _⟩) (v := ?_) rfl (by kernel_rfl) (by kernel_rfl) (by kernel_rfl) (fun _ _ _ h => h) (Or.inl ⟨by rfl, ?_⟩) (by assumption) ?_
            rotate_left
            · (intro w hSw; (try dsimp only at hSw); go_simp; (try (with_reducible rfl)))
            try simp only [Act.put, List.setIfInBounds_toArray, List.set_cons_zero, List.set_cons_succ]
            refine wpAnyH_take (i := 3) (oi := ⟨some 41, _, _, _, _, _⟩) (v := ?_) rfl (by kernel_rfl) (by kernel_rfl) (by kernel_rfl) (fun _ _ _ h => h) (Or.inl ⟨by rfl, ?_⟩) (by assumption) ?_
            rotate_left
            · (intro w hSw; (try dsimp only at hSw); go_simp; (try (with_reducible rfl)))
            try simp only [Act.put, List.setIfInBounds_toArray, List.set_cons_zero, List.set_cons_succ]
            refine wpAnyH_take (i := 4) (oi := ⟨some 42, _, _, _, _, _⟩) (v := ?_) rfl (by kernel_rfl) (by kernel_rfl) (by kernel_rfl) (fun _ _ _ h => h) (Or.inl ⟨by rfl, ?_⟩) (by assumption) ?_
            rotate_left
            · (intro w hSw; (try dsimp only at hSw); go_simp; (try (with_reducible rfl)))
            try simp only [Act.put, List.setIfInBounds_toArray, List.set_cons_zero, List.set_cons_succ]
            refine wpAnyH_take (i := 6) (oi := ⟨some 44, _, _, _, _, _⟩) (v := ?_) rfl (by kernel_rfl) (by kernel_rfl) (by kernel_rfl) (fun _ _ _ h => h) (Or.inl ⟨by rfl, ?_⟩) (by assumption) ?_
            rotate_left
            · (intro w hSw; (try dsimp only at hSw); go_simp; (try (with_reducible rfl)))
            try simp only [Act.put, List.setIfInBounds_toArray, List.set_cons_zero, List.set_cons_succ]
            refine wpAnyH_take (i := 7) (oi := ⟨some 45, _, _, _, _, _⟩) (v := ?_) rfl (by kernel_rfl) (by kernel_rfl) (by kernel_rfl) (fun _ _ _ h => h) (Or.inl ⟨by rfl, ?_⟩) (by assumption) ?_
            rotate_left
            · (intro w hSw; (try dsimp only at hSw); go_simp; (try (with_reducible rfl)))
            try simp only [Act.put, List.setIfInBounds_toArray, List.set_cons_zero, List.set_cons_succ]
            refine wpAnyH_take (i := 8) (oi := ⟨some 46, _, _, _, _, _⟩) (v := ?_) rfl (by kernel_rfl) (by kernel_rfl) (by kernel_rfl) (fun _ _ _ h => h) (Or.inl ⟨by rfl, ?_⟩) (by assumption) ?_
            rotate_left
            · (intro w hSw; (try dsimp only at hSw); go_simp; (try (with_reducible rfl)))
            try simp only [Act.put, List.setIfInBounds_toArray, List.set_cons_zero, List.set_cons_succ]
            refine wpAnyH_take (i := 10) (oi := ⟨some 48, _, _, _, _, _⟩) (v := ?_) rfl (by kernel_rfl) (by kernel_rfl) (by kernel_rfl) (fun _ _ _ h => h) (Or.inl ⟨by rfl, ?_⟩) (by assumption) ?_
            rotate_left
            · (intro w hSw; (try dsimp only at hSw); go_simp; (try (with_reducible rfl)))
            try simp only [Act.put, List.setIfInBounds_toArray, List.set_cons_zero, List.set_cons_succ]
            refine wpAnyH_take (i := 11) (oi := ⟨some 49, _, _, _, _, _⟩) (v := ?_) rfl (by kernel_rfl) (by kernel_rfl) (by kernel_rfl) (fun _ _ _ h => h) (Or.inl ⟨by rfl, ?_⟩) (by assumption) ?_
            rotate_left
            · (intro w hSw; (try dsimp only at hSw); go_simp; (try (with_reducible rfl)))
            try simp only [Act.put, List.setIfInBounds_toArray, List.set_cons_zero, List.set_cons_succ]
            refine wpAnyH_take (i := 12) (oi := ⟨some 50, _, _, _, _, _⟩) (v := ?_) rfl (by kernel_rfl) (by kernel_rfl) (by kernel_rfl) (fun _ _ _ h => h) (Or.inl ⟨by rfl, ?_⟩) (by assumption) ?_
            rotate_left
            · (intro w hSw; (try dsimp only at hSw); go_simp; (try (with_reducible rfl)))
            try simp only [Act.put, List.setIfInBounds_toArray, List.set_cons_zero, List.set_cons_succ]
            refine wpAnyH_take (i := 13) (oi := ⟨some 51, _, _, _, _, _⟩) (v := ?_) rfl (by kernel_rfl) (by kernel_rfl) (by kernel_rfl) (fun _ _ _ h => h) (Or.inl ⟨by rfl, ?_⟩) (by assumption) ?_
            rotate_left
            · (intro w hSw; (try dsimp only at hSw); go_simp; (try (with_reducible rfl)))
            try simp only [Act.put, List.setIfInBounds_toArray, List.set_cons_zero, List.set_cons_succ]
            refine wpAnyH_take (i := 14) (oi := ⟨some 52, _, _, _, _, _⟩) (v := ?_) rfl (by kernel_rfl) (by kernel_rfl) (by kernel_rfl) (fun _ _ _ h => h) (Or.inl ⟨by rfl, ?_⟩) (by assumption) ?_
            rotate_left
            · (intro w hSw; (try dsimp only at hSw); go_simp; (try (with_reducible rfl)))
            try simp only [Act.put, List.setIfInBounds_toArray, List.set_cons_zero, List.set_cons_succ]
            refine wpAnyH_take (i := 15) (oi := ⟨some 53, _, _, _, _, _⟩) (v := ?_) rfl (by kernel_rfl) (by kernel_rfl) (by kernel_rfl) (fun _ _ _ h => h) (Or.inl ⟨by rfl, ?_⟩) (by assumption) ?_
            rotate_left
            · (intro w hSw; (try dsimp only at hSw); go_simp; (try (with_reducible rfl)))
            try simp only [Act.put, List.setIfInBounds_toArray, List.set_cons_zero, List.set_cons_succ]
            refine wpAnyH_take (i := 16) (oi := ⟨some 54, _, _, _, _, _⟩) (v := ?_) rfl (by kernel_rfl) (by kernel_rfl) (by kernel_rfl) (fun _ _ _ h => h) (Or.inl ⟨by rfl, ?_⟩) (by assumption) ?_
            rotate_left
            · (intro w hSw; (try dsimp only at hSw); go_simp; (try (with_reducible rfl)))
            try simp only [Act.put, List.setIfInBounds_toArray, List.set_cons_zero, List.set_cons_succ]
            refine wpAnyH_ready (rs := [5, 9]) (by kernel_rfl) (by simp) ?_
            refine AllReadyH.cons rfl (fun K hK => ?_) (AllReadyH.cons (o := ⟨some 47, _, _, _, _, _⟩) rfl (fun K hK => ?_) AllReadyH.nil)
            · go_simp
              refine hK.out _ _ hHeld (fun hHeld => ?_)
              clear hK K
              try simp only [List.setIfInBounds_toArray, List.set_cons_zero, List.set_cons_succ]
              refine wpAnyH_ready (rs := [9]) (by kernel_rfl) (by simp) ?_
              refine AllReadyH.cons (o := ⟨some 47, _, _, _, _, _⟩) rfl (fun K hK => ?_) AllReadyH.nil
              go_simp
              refine HCA.out.mono ?_; rintro e w5 ⟨rfl, nd, rfl⟩; have f5 : (wr.drew.drewN nd).cell? ⟨g1, q, none⟩ = some (.int .i64 u) := f2; have f6 : (wr.drew.drewN nd).cell? ⟨g1, i, none⟩ = some (.int .i64 v) := f1; have z5 : (wr.drew.drewN nd).frozen? ⟨g1, i, none⟩ = false := z1
              go_wp2_with fail
              refine hK.out _ _ (by (try dsimp only); simp [*]) (fun hHeld => ?_)
              clear hK K
              try simp only [List.setIfInBounds_toArray, List.set_cons_zero, List.set_cons_succ]
              refine wpAnyH_take (i := 17) (oi := ⟨some 55, _, _, _, _, _⟩) (v := ?_) rfl (by kernel_rfl) (by kernel_rfl) (by kernel_rfl) (fun _ _ _ h => h) (Or.inl ⟨by rfl, ?_⟩) (by assumption) ?_
              rotate_left
              · (intro w hSw; (try dsimp only at hSw); go_simp; (try (with_reducible rfl)))
              try simp only [Act.put, List.setIfInBounds_toArray, List.set_cons_zero, List.set_cons_succ]
              refine wpAnyH_take (i := 18) (oi := ⟨some 56, _, _, _, _, _⟩) (v := ?_) rfl (by kernel_rfl) (by kernel_rfl) (by kernel_rfl) (fun _ _ _ h => h) (Or.inl ⟨by rfl, ?_⟩) (by assumption) ?_
              rotate_left
              · (intro w hSw; (try dsimp only at hSw); go_simp; (try (with_reducible rfl)))
              try simp only [Act.put, List.setIfInBounds_toArray, List.set_cons_zero, List.set_cons_succ]
              refine wpAnyH_take (i := 19) (oi := ⟨some 57, _, _, _, _, _⟩) (v := ?_) rfl (by kernel_rfl) (by kernel_rfl) (by kernel_rfl) (fun _ _ _ h => h) (Or.inl ⟨by rfl, ?_⟩) (by assumption) ?_
              rotate_left
              · (intro w hSw; (try dsimp only at hSw); go_simp; (try (with_reducible rfl)))
              try simp only [Act.put, List.setIfInBounds_toArray, List.set_cons_zero, List.set_cons_succ]
              refine wpAnyH_ready (rs := [20]) (by kernel_rfl) (by simp) ?_
              refine AllReadyH.cons rfl (fun K hK => ?_) AllReadyH.nil
              go_simp
              refine hK.out _ _ (HK2.out _ _ f5) (fun hHeld => ?_)
              clear hK K
              refine wpAnyH_done (by kernel_rfl) ?_ _
              have HW := Lib.hid (min_if cc u v)
              generalize (if (if cc < u then u else cc) < v then (if cc < u then u else cc) else v) = mm at *
              generalize (if cc < u then u else cc) = m2 at *
              have HS5 := Lib.hid ((own_below HR.out (below_drewN (Below.refl wr.heap.size wr) (1 + nd))).stored i (.int .i64 mm))
              clear hHeld f1 z1 f2
              go_wp2_with fail
              go_roundg g4
              case measure => omega
              case rel =>
                have h_ := HS5.out.1
                rw [rowF_cells, upd_upd, HW.out] at h_
                refine ⟨x + 1, _, by omega, by go_num, ?_, HP, ?_⟩
                · rw [HW.out]; exact h_
                · exact (below_drewN HB.out (1 + nd)).setCell (p := ⟨g1, i, none⟩) (HR.out.lt g1 rfl).1 _
            · go_simp
              refine HCA.out.mono ?_
              rintro e w5 ⟨rfl, nd, rfl⟩
              have f5 : (wr.drew.drewN nd).cell? ⟨g1, q, none⟩ = some (.int .i64 u) := f2
              have f6 : (wr.drew.drewN nd).cell? ⟨g1, i, none⟩ = some (.int .i64 v) := f1
              have z5 : (wr.drew.drewN nd).frozen? ⟨g1, i, none⟩ = false := z1
              go_wp2_with fail
              refine hK.out _ _ f5 (fun hHeld => ?_)
              clear hK K
              try simp only [List.setIfInBounds_toArray, List.set_cons_zero, List.set_cons_succ]
              refine wpAnyH_take (i := 17) (oi := ⟨some 55, _, _, _, _, _⟩) (v := ?_) rfl (by kernel_rfl) (by kernel_rfl) (by kernel_rfl) (fun _ _ _ h => h) (Or.inl ⟨by rfl, ?_⟩) (by assumption) ?_
              rotate_left
              · (intro w hSw; (try dsimp only at hSw); go_simp; (try (with_reducible rfl)))
              try simp only [Act.put, List.setIfInBounds_toArray, List.set_cons_zero, List.set_cons_succ]
              refine wpAnyH_ready (rs := [5]) (by kernel_rfl) (by simp) ?_
              refine AllReadyH.cons rfl (fun K hK => ?_) AllReadyH.nil
              go_simp
              refine hK.out _ _ (f5) (fun hHeld => ?_)
              clear hK K
              try simp only [List.setIfInBounds_toArray, List.set_cons_zero, List.set_cons_succ]
              refine wpAnyH_take (i := 18) (oi := ⟨some 56, _, _, _, _, _⟩) (v := ?_) rfl (by kernel_rfl) (by kernel_rfl) (by kernel_rfl) (fun _ _ _ h => h) (Or.inl ⟨by rfl, ?_⟩) (by assumption) ?_
              rotate_left
              · (intro w hSw; (try dsimp only at hSw); go_simp; (try (with_reducible rfl)))
              try simp only [Act.put, List.setIfInBounds_toArray, List.set_cons_zero, List.set_cons_succ]
              refine wpAnyH_take (i := 19) (oi := ⟨some 57, _, _, _, _, _⟩) (v := ?_) rfl (by kernel_rfl) (by kernel_rfl) (by kernel_rfl) (fun _ _ _ h => h) (Or.inl ⟨by rfl, ?_⟩) (by assumption) ?_
              rotate_left
              · (intro w hSw; (try dsimp only at hSw); go_simp; (try (with_reducible rfl)))
              try simp only [Act.put, List.setIfInBounds_toArray, List.set_cons_zero, List.set_cons_succ]
              refine wpAnyH_ready (rs := [20]) (by kernel_rfl) (by simp) ?_
              refine AllReadyH.cons rfl (fun K hK => ?_) AllReadyH.nil
              go_simp
              refine hK.out _ _ (HK2.out _ _ f5) (fun hHeld => ?_)
              clear hK K
              refine wpAnyH_done (by kernel_rfl) ?_ _
              have HW := Lib.hid (min_if cc u v)
              generalize (if (if cc < u then u else cc) < v then (if cc < u then u else cc) else v) = mm at *
              generalize (if cc < u then u else cc) = m2 at *
              have HS5 := Lib.hid ((own_below HR.out (below_drewN (Below.refl wr.heap.size wr) (1 + nd))).stored i (.int .i64 mm))
              clear hHeld f1 z1 f2
              go_wp2_with fail
              go_roundg g4
              case measure => omega
              case rel =>
                have h_ := HS5.out.1
                rw [rowF_cells, upd_upd, HW.out] at h_
                refine ⟨x + 1, _, by omega, by go_num, ?_, HP, ?_⟩
                · rw [HW.out]; exact h_
                · exact (below_drewN HB.out (1 + nd)).setCell (p := ⟨g1, i, none⟩) (HR.out.lt g1 rfl).1 _
end Go.Proofs.Ytphlpipbhaiijaa.costs

/- The contracts of the program's closedAround, connectedIn and bagOf. -/
namespace Go.Proofs.Ytphlpipbhaiijaa.bitsI
open Go.RowKit P2 words edges ints good adjs fns sets rets covs bags
set_option linter.unusedVariables false

theorem andNot_num (a : Nat) (p : Nat → Bool) (n : Nat) (ha : a < 18446744073709551616) (hn : n ≤ 8) (q : Nat → Bool) (hq : ∀ z, z < 64 → (a.testBit z && !(decide (z < n) && p z)) = (decide (z < n) && q z)) :
    bits .andNot .u64 (a : Int) (numOf p n : Int) = (numOf q n : Int) := by
  have hb := numOf_lt p hn
  rw [u64_andNot_nat a _ ha (by omega)]
  congr 1
  apply Nat.eq_of_testBit_eq
  intro i
  rw [Nat.testBit_and, show (18446744073709551615 - numOf p n) = 2 ^ 64 - (numOf p n + 1) from by omega, Nat.testBit_two_pow_sub_succ (by omega), numOf_bit, numOf_bit]
  by_cases hi : i < 64
  · rw [← hq i hi]; simp [hi]
  · have h1 : decide (i < 64) = false := decide_eq_false hi
    have h2 : decide (i < n) = false := decide_eq_false (by omega)
    rw [h1, h2]; simp
theorem num_one {n x : Nat} (hx : x < n) : numOf (fun y => decide (y = x)) n = 2 ^ x := by
  apply Nat.eq_of_testBit_eq
  intro i
  rw [numOf_bit, Nat.testBit_two_pow]
  by_cases e : i = x
  · subst e; simp [hx]
  · have h9 : ¬ x = i := fun h => e h.symm
    simp [e, h9]
theorem num_or_one (p : Nat → Bool) {n x : Nat} (hx : x < n) : numOf p n ||| 2 ^ x = numOf (reach.pput p x) n := by
  apply Nat.eq_of_testBit_eq
  intro i
  rw [Nat.testBit_or, numOf_bit, numOf_bit, Nat.testBit_two_pow]
  unfold reach.pput
  by_cases e : i = x
  · subst e; simp [hx]
  · have h9 : ¬ x = i := fun h => e h.symm
    simp [e, h9]
set_option maxHeartbeats 1000000 in
set_option maxRecDepth 100000 in
theorem closedAround_any (n c : Nat) (v : Value) (l : List Ed) (w : World) (h : Nums w v (clos l n)) (hg : P2.Good (n : Int) l) (hn : n ≤ 8) (hc : c < 256) :
    Calls Try.prog 134 #[v, .int .u64 (c : Int)] w fun e w' => e = .returned (.int .u64 (arN l n c : Int)) ∧ w = w' := by
  obtain ⟨A, cc, rfl, hcl⟩ := h.form
  have HC := Lib.hid hcl
  have HG := Lib.hid hg
  have hlen := clos_len l n
  rw [hlen]
  clear h hcl hg hlen
  go_enter Try.func134, Try.ntmps134
  go_wp2_with fail
  go_loop [5, 10] (fun s i => ∃ k : Nat, k ≤ n ∧ i = .int .i64 (k : Int) ∧ s = .int .u64 (arK l c k : Int)) (fun _ i => n - (intOf i).toNat)
  case atStart => exact ⟨0, Nat.zero_le _, rfl, rfl⟩
  case round =>
    obtain ⟨k, hk, rfl, rfl⟩ := hrel
    by_cases hlt : k < n
    · have hlt' : (k : Int) < (n : Int) := by omega
      obtain ⟨g, o, rfl, c0⟩ := HC.out k _ (clos_at hlt)
      have HH := Lib.hid (fun (W : World) => has_any c k W (by omega) (by omega))
      cases hb : c.testBit k with
      | true =>
        have HN := Lib.hid (arK_yes (l := l) hb)
        have HT : Hid (bits .or .u64 (arK l c k : Int) (cloB l k : Int) = ((arK l c k ||| cloB l k : Nat) : Int)) :=
          bits_or_u64_nat _ _ (by have := arK_lt HG.out c (k := k) (by omega); omega) (by have := cloB_lt' HG.out k (by omega); omega)
        rw [hb] at HH
        clear hb
        go_wp2_with fail
        refine (HH.out _).mono ?_
        rintro e w' ⟨rfl, rfl⟩
        go_wp2_with fail
        go_round
        case rel => exact ⟨k + 1, by omega, by go_num, by rw [HN.out, HT.out]⟩
        case measure => simp [intOf]; omega
      | false =>
        have HN := Lib.hid (arK_no (l := l) hb)
        rw [hb] at HH
        clear hb
        go_wp2_with fail
        refine (HH.out _).mono ?_
        rintro e w' ⟨rfl, rfl⟩
        go_wp2_with fail
        go_round
        case rel => exact ⟨k + 1, by omega, by go_num, by rw [HN.out]⟩
        case measure => simp [intOf]; omega
    · obtain rfl : k = n := by omega
      have HE := Lib.hid (arK_all HG.out c)
      go_wp2_with fail
      go_ret
      exact ⟨ret_int (by rw [HE.out]), rfl⟩
set_option maxHeartbeats 1000000 in
set_option maxRecDepth 100000 in
theorem connectedIn_any (n : Nat) (q P : Nat → Bool) (v : Value) (l : List Ed) (w : World) (h : Nums w v (clos l n)) (hg : P2.Good (n : Int) l) (hn : n ≤ 8) (hP : ∀ z, z < n → P z = true → q z = true) :
    Calls Try.prog 121 #[v, .int .u64 (numOf q n : Int), .int .u64 (numOf P n : Int)] w fun e w' => e = .returned (.int .u64 (numOf (connB n (J2 l) q P) n : Int)) ∧ w = w' := by
  have HA := Lib.hid (fun p => closedAround_any n (numOf p n) v l w h hg hn (numOf_lt p hn))
  have H0 : Hid (Conn n l q P P) := Conn.first hP
  have hq := numOf_lt q hn
  clear h hg hP
  go_enter Try.func121, Try.ntmps121
  go_wp2_with fail
  go_loopg [2] n (fun g s wr => ∃ p, s = .int .u64 (numOf p n : Int) ∧ Hid (Conn n l q P p) ∧ n ≤ (nw p n).length + g ∧ wr = w)
  case atStart => exact ⟨P, rfl, H0, by omega, rfl⟩
  case round =>
    clear H0
    obtain ⟨p, rfl, hcn, hmeas, rfl⟩ := hrel
    have hand : bits .and .u64 ((arN l n (numOf p n) : Nat) : Int) ((numOf q n : Nat) : Int) = ((numOf (mored l n q p) n : Nat) : Int) := by
      have h1 : arN l n (numOf p n) < 256 := numOf_lt _ hn
      rw [bits_and_u64_nat _ _ (by omega) (by omega)]
      unfold arN
      rw [num_and]; rfl
    have HAP := Lib.hid (HA.out p)
    by_cases he : numOf (mored l n q p) n = numOf p n
    · have HE := Lib.hid (hcn.out.done he)
      have d0 : (numOf (mored l n q p) n == numOf p n) = true := by simpa using he
      have d1 : (((numOf (mored l n q p) n : Nat) : Int) == ((numOf p n : Nat) : Int)) = true := by rw [he]; simp
      have HEE := Lib.hid he
      clear he hcn
      generalize arN l n (numOf p n) = a at *
      generalize numOf (mored l n q p) n = m at *
      go_wp2_with fail
      refine HAP.out.mono ?_
      rintro e w' ⟨rfl, rfl⟩
      go_wp2_with fail
      go_ret
      exact ⟨ret_int (by rw [HEE.out, HE.out]), rfl⟩
    · have hgr := hcn.out.grow he
      have HN := Lib.hid hcn.out.next
      have hle := nw_len (mored l n q p) n
      obtain ⟨g2, rfl⟩ : ∃ g2, gk = g2 + 1 := ⟨gk - 1, by omega⟩
      have HM : Hid (n ≤ (nw (mored l n q p) n).length + g2) := by show _ ≤ _; omega
      have d0 : (numOf (mored l n q p) n == numOf p n) = false := by simpa using he
      have d1 : (((numOf (mored l n q p) n : Nat) : Int) == ((numOf p n : Nat) : Int)) = false := by
        have : ¬ ((numOf (mored l n q p) n : Nat) : Int) = ((numOf p n : Nat) : Int) := by omega
        simpa using this
      clear he hcn hgr hle hmeas
      generalize arN l n (numOf p n) = a at *
      generalize hmm : numOf (mored l n q p) n = m at *
      have HMM := Lib.hid hmm
      clear hmm
      go_wp2_with fail
      refine HAP.out.mono ?_
      rintro e w' ⟨rfl, rfl⟩
      go_wp2_with fail
      go_roundg g2
      case measure => omega
      case rel => exact ⟨mored l n q p, by rw [HMM.out], HN, HM.out, rfl⟩
set_option maxHeartbeats 1000000 in
set_option maxRecDepth 100000 in
theorem bagOf_any (n x : Nat) (G : Nat → Bool) (v : Value) (l : List Ed) (w : World) (h : Nums w v (clos l n)) (hg : P2.Good (n : Int) l) (hn : n ≤ 8) (hx : x < n) (hG : G x = false) :
    Calls Try.prog 85 #[v, .int .u64 (numOf G n : Int), .int .i64 (x : Int)] w fun e w' => e = .returned (.int .u64 (numOf (bagB n l G x) n : Int)) ∧ ∃ m, w' = w.drewN m := by
  have HX := Lib.hid (fun (W : World) (hW : Nums W v (clos l n)) => connectedIn_any n (reach.pput G x) (fun y => decide (y = x)) v l W hW hg hn (fun z _ hz => by unfold reach.pput; simp [of_decide_eq_true hz]))
  have HY := Lib.hid (fun (W : World) (hW : Nums W v (clos l n)) => closedAround_any n (numOf (connB n (J2 l) (reach.pput G x) (fun y => decide (y = x))) n) v l W hW hg hn (numOf_lt _ hn))
  have HD := Lib.hid (fun (m : Nat) => (show Nums (w.drewN m) v (clos l n) from h))
  have hGl := numOf_lt G hn
  have hpw : IntKind.u64.wrap ((2 : Int) ^ x) = ((numOf (fun y => decide (y = x)) n : Nat) : Int) := by rw [num_one hx]; exact wrap_pow (by omega)
  have hor : bits .or .u64 ((numOf G n : Nat) : Int) ((numOf (fun y => decide (y = x)) n : Nat) : Int) = ((numOf (reach.pput G x) n : Nat) : Int) := by
    have h1 := numOf_lt (fun y => decide (y = x)) hn
    rw [bits_or_u64_nat _ _ (by omega) (by omega), num_one hx, num_or_one G hx]
  have hno : bits .andNot .u64 ((arN l n (numOf (connB n (J2 l) (reach.pput G x) (fun y => decide (y = x))) n) : Nat) : Int) ((numOf G n : Nat) : Int) = ((numOf (bagB n l G x) n : Nat) : Int) := by
    have h1 : arN l n (numOf (connB n (J2 l) (reach.pput G x) (fun y => decide (y = x))) n) < 256 := numOf_lt _ hn
    refine andNot_num _ G n (by omega) hn _ fun z _ => ?_
    unfold arN
    rw [numOf_bit]
    by_cases hz : z < n
    · have := bag_is (l := l) hx hG hz
      rw [← this]; simp [hz]
    · simp [hz]
  clear h hG hg
  generalize arN l n (numOf (connB n (J2 l) (reach.pput G x) (fun y => decide (y = x))) n) = a at *
  generalize numOf (connB n (J2 l) (reach.pput G x) (fun y => decide (y = x))) n = b at *
  generalize numOf (fun y => decide (y = x)) n = c at *
  generalize numOf (reach.pput G x) n = d at *
  generalize numOf (bagB n l G x) n = f at *
  generalize numOf G n = gg at *
  go_enter Try.func85, Try.ntmps85
  go_wp2_with fail
  go_quiet (first | (go_at_call 121; exact quiet_left (HX.out _ (HD.out _))) | (go_at_call 134; exact quiet_left (HY.out _ (HD.out _))))
  go_wp2_with fail
  go_ret
  exact ⟨rfl, _, rfl⟩
end Go.Proofs.Ytphlpipbhaiijaa.bitsI
