/- The contracts of NeighborsOf: of the program and of the model. -/
import Derived.Test.YtbelfdkfccchbaaAdj
import Derived.Test.YtbelfdkfccchbaaFns
import Derived.Laws.EntriesVeiled
namespace Go.Proofs.Ytbelfdkfccchbaa.neigh
open Go.RowKit P2 words edges ints good near adjs fns

theorem ret2 {a b c d : Value} (h : a = c) (h2 : b = d) : Ending.returned (.tuple #[a, b]) = .returned (.tuple #[c, d]) := by rw [h, h2]
theorem in64_small {x : Int} (h : -100 ≤ x) (h2 : x ≤ 100) : In64 x := by unfold In64; omega

/-- a variable holds the function value of the neighbors by a list of edges -/
def NearV (w : World) (b : Nat) (l : List Ed) : Prop := ∃ c, w.cell? ⟨b, 0, none⟩ = some (.func (.func 111) #[] #[.pointer (some ⟨c, 0, none⟩)]) ∧ NearIs w c l
theorem NearV.below {w w' : World} {b : Nat} {l : List Ed} (h : NearV w b l) (hb : Below w.heap.size w w') : NearV w' b l := by
  obtain ⟨c, h1, h2⟩ := h
  exact ⟨c, (hb.cell (p := ⟨b, 0, none⟩) (World.block_lt_of_cell? w (a := ⟨b, 0, none⟩) h1)).trans h1, h2.below hb⟩
theorem cell_keep {w w' : World} {b o : Nat} {v : Value} (h : w.cell? ⟨b, o, none⟩ = some v) (hb : Below w.heap.size w w') : w'.cell? ⟨b, o, none⟩ = some v :=
  (hb.cell (p := ⟨b, o, none⟩) (World.block_lt_of_cell? w (a := ⟨b, o, none⟩) h)).trans h

theorem neighClo_any (x y : Int) (bn bx : Nat) (s : Int) (l : List Ed) (w : World) (hg : P2.Good s l) (h1 : NearV w bn l) (h2 : w.cell? ⟨bx, 0, none⟩ = some (.int .i64 x)) (hx : In64 x) (hy : In64 y) :
    Calls Try.prog 84 #[.int .i64 y, .pointer (some ⟨bn, 0, none⟩), .pointer (some ⟨bx, 0, none⟩)] w fun e w' => e = .returned (.bool (adj l x y)) ∧ w = w' := by
  obtain ⟨c, hc, hn⟩ := h1
  rw [adj_min hg]
  have HN := Lib.hid (near_any x y c l w hn hx hy)
  clear hn hx hy hg
  go_enter Try.func84, Try.ntmps84
  go_wp2_with fail
  refine HN.out.mono ?_
  rintro e w' ⟨rfl, rfl⟩
  go_wp2_with fail
  go_ret
  exact ⟨rfl, rfl⟩
theorem neighClo_fn (x : Int) (bn bx n : Nat) (s : Int) (l : List Ed) (w : World) (hg : P2.Good s l) (h1 : NearV w bn l) (h2 : w.cell? ⟨bx, 0, none⟩ = some (.int .i64 x)) (hx : In64 x) (hn : n ≤ 8) :
    Fn1 w 84 #[.pointer (some ⟨bn, 0, none⟩), .pointer (some ⟨bx, 0, none⟩)] n (fun y => adj l x y) where
  enter := fun _ _ => by kernel_rfl
  call := fun W hb y hy => (neighClo_any x y bn bx s l W hg (h1.below hb) (cell_keep h2 hb) hx (in64_small (by omega) (by omega))).mono fun _ _ ⟨he, hw⟩ => ⟨he, hw ▸ Below.refl _ _⟩

/-- the neighbors of a node, or none -/
noncomputable def neighR (s : Int) (l : List Ed) (x : Int) : List Int := if nodesB s l [x] = true then nw (fun y => adj l x y) s.toNat else []

theorem neighR_len (s : Int) (l : List Ed) (x : Int) : (neighR s l x).length ≤ 1048576 := by
  unfold neighR
  split
  · rename_i h
    have := (nodesB_iff.1 h).1
    have h2 := nw_len (fun y => adj l x y) s.toNat
    have h3 := this.1
    have h4 := this.2.1
    omega
  · simp
set_option maxHeartbeats 1000000 in
set_option maxRecDepth 100000 in
theorem implNeighbors_any (s x : Int) (v : Value) (l : List Ed) (w : World) (h : Edges w v l) (hl : l.length ≤ 1048576) :
    Calls Try.prog 33 #[.agg #[.int .i64 s, v], .int .i64 x] w fun e w' => ∃ A c, e = .returned (.tuple #[.slice A (neighR s l x).length c, .bool (nodesB s l [x])]) ∧
      w'.ownsRow w.heap.size 3 1 (.slice A (neighR s l x).length c) (neighR s l x).length (cellsI (neighR s l x)) ∧ Below w.heap.size w w' := by
  obtain ⟨A, c, rfl, -⟩ := h.form
  have H := Lib.hid h
  clear h
  have hmf : ∀ (fn : Fn) (first cap : Array Value) (w : World), (Instr.makeFunc fn first cap).run Try.prog w = .ok (.func fn first cap) w := fun _ _ _ _ => rfl
  go_enter Try.func33, Try.ntmps33
  go_wp2_with fail
  have b0 : Below w.heap.size w (((w.alloc (.cells #[.int .i64 s, .slice A l.length c] 26)).alloc (.cells #[.int .i64 x] 3)).alloc (.cells #[.int .i64 x] 3)) := by
    repeat refine Below.alloc ?_ (by first | exact Nat.le_refl _ | (simp only [World.size_alloc]; omega)) _
    exact Below.refl _ _
  have i0 := Reads.of_own (own_new1 ((w.alloc (.cells #[.int .i64 s, .slice A l.length c] 26)).alloc (.cells #[.int .i64 x] 3)) 3 x)
  simp only [World.size_alloc] at i0
  refine (hasNodes_any s (.slice A l.length c) (.slice (some ⟨w.heap.size + 1 + 1, 0, none⟩) 1 1) l [x] _ (H.out.below b0) hl i0 (by simp)).mono ?_
  rintro e w1 ⟨rfl, b1⟩
  have e1 := btrans b0 b1
  have g1 := (((Blk.new w 26 #[.int .i64 s, .slice A l.length c]).alloc (.cells #[.int .i64 x] 3)).alloc (.cells #[.int .i64 x] 3)).below b1 (by simp only [World.size_alloc]; omega)
  have x1 := ((Blk.new (w.alloc (.cells #[.int .i64 s, .slice A l.length c] 26)) 3 #[.int .i64 x]).alloc (.cells #[.int .i64 x] 3)).below b1 (by simp only [World.size_alloc]; omega)
  rw [World.size_alloc] at x1
  clear b1 i0
  by_cases hg : nodesB s l [x] = true
  · have hgd : P2.Good s l ∧ ∀ y ∈ [x], 0 ≤ y ∧ y < s := nodesB_iff.1 hg
    have hs0 := hgd.1.1
    have hs8 := hgd.1.2.1
    have hx := hgd.2 x (by simp)
    obtain ⟨n, hn⟩ : ∃ n : Nat, s = (n : Int) := ⟨s.toNat, by omega⟩
    subst hn
    have HG := Lib.hid hgd.1
    have HR : Hid (neighR (n : Int) l x = nw (fun y => adj l x y) n) := by unfold neighR; rw [if_pos hg]; rfl
    have HGB := Lib.hid hg
    obtain ⟨p0, p1, -, -⟩ := g1.two
    clear hgd
    go_wp2_with fail
    refine (neighborTest_any (n : Int) (.slice A l.length c) l w1 (H.out.below e1) hl (fun e he => by have := HG.out.mem he; exact ⟨in64_small (by omega) (by omega), in64_small (by omega) (by omega)⟩)).mono ?_
    rintro e w2 ⟨c2, rfl, n2, b2⟩
    have e2 := btrans e1 b2
    have g2 := g1.below b2 g1.lt
    have x2 := x1.below b2 x1.lt
    clear g1 x1 p0 p1
    obtain ⟨p0, p1, -, -⟩ := g2.two
    have c3 := Blk.new w2 70 #[.func (.func 111) #[] #[.pointer (some ⟨c2, 0, none⟩)]]
    have n3 := n2.below ((Below.refl w2.heap.size w2).alloc (Nat.le_refl _) (.cells #[.func (.func 111) #[] #[.pointer (some ⟨c2, 0, none⟩)]] 70))
    have x3 := x2.alloc (.cells #[.func (.func 111) #[] #[.pointer (some ⟨c2, 0, none⟩)]] 70)
    have F := Lib.hid (neighClo_fn x w2.heap.size (w.heap.size + 1) n (n : Int) l _ HG.out ⟨c2, c3.cell 0, n3⟩ (x3.cell 0) (in64_small (by omega) (by omega)) (by omega))
    have hn8 : n ≤ 8 := by omega
    have hs2 := g2.lt
    clear c3 n3 x3 x2 n2
    go_wp2_with fail
    refine (nodesWhere_any n 84 _ _ _ hn8 F.out).mono ?_
    rintro e w4 ⟨A4, c4, rfl, o4, b4⟩
    go_wp2_with fail
    go_ret2
    rw [HR.out, HGB.out]
    exact ⟨A4, c4, rfl, own_base o4 (by simp only [World.size_alloc]; omega), btrans (e2.alloc e2.size _) b4⟩
  · have hg' : nodesB s l [x] = false := by simpa using hg
    have HR : Hid (neighR s l x = []) := by unfold neighR; rw [if_neg hg]; rfl
    clear hg
    go_wp2_with fail
    go_ret2
    exact ⟨none, 0, ret2 (by rw [HR.out]; rfl) (by rw [hg']; rfl), by rw [HR.out]; exact World.ownsRow_nil _ _ _ _, e1⟩
end Go.Proofs.Ytbelfdkfccchbaa.neigh
