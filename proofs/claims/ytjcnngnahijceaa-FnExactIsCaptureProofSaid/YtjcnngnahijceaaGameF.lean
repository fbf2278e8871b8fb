/- The contract of the program's findTimes, for any game. -/
import Derived.Test.YtjcnngnahijceaaGameT
namespace Go.Proofs.Ytjcnngnahijceaa.times
open Go.RowKit P2 words edges ints good adjs fns sets rets covs bitsI bags gridr mids grid reps apps
set_option linter.unusedVariables false

theorem own_kept_u {w w' : World} {B B' n m : Nat} {t : TypeId} {v v' : Value} {xs ys : List Value} (h : w.ownsRow B t 1 v n xs) (h' : w.ownsRow B' 67 1 v' m ys) (ht : t ≠ 67) (hg : w.grownBy w' v'.ownBlock) : w'.ownsRow B t 1 v n xs := by
  refine h.kept hg ?_
  cases hv : v.ownBlock with
  | none => exact .inl rfl
  | some k => exact .inr fun e => own_apart h h' ht k hv e.symm
/-- a table stays where a row of words is written -/
theorem OwnG.kept_u {w w' : World} {B B' m : Nat} {v v' : Value} {us : List Value} {rows : List (List Int)} {ys : List Value} (h : OwnG w B v us rows) (h' : w.ownsRow B' 67 1 v' m ys) (hg : w.grownBy w' v'.ownBlock) : OwnG w' B v us rows :=
  ⟨own_kept_u h.1 h' (by decide) hg, fun i u r hu hr => own_kept_u (h.2.1 i u r hu hr) h' (by decide) hg, h.2.2⟩
/-- a table stays where a block of words is written -/
theorem OwnG.kept_b {w w' : World} {B O : Nat} {v : Value} {us : List Value} {rows : List (List Int)} {cs : Array Value} (h : OwnG w B v us rows) (hO : Blk w O 67 cs) (hg : w.grownBy w' (some O)) : OwnG w' B v us rows :=
  ⟨h.1.kept hg (.inr (own_ne h.1 hO (by decide))), fun i u r hu hr => (h.2.1 i u r hu hr).kept hg (.inr (own_ne (h.2.1 i u r hu hr) hO (by decide))), h.2.2⟩
theorem own_kept {w w' : World} {B B' n m sz : Nat} {t t' : TypeId} {v v' : Value} {xs ys : List Value} (h : w.ownsRow B t sz v n xs) (h' : w.ownsRow B' t' 1 v' m ys) (ht : t ≠ t') (hg : w.grownBy w' v'.ownBlock) : w'.ownsRow B t sz v n xs := by
  refine h.kept hg ?_
  cases hv : v.ownBlock with
  | none => exact .inl rfl
  | some k => exact .inr fun e => own_apart h h' ht k hv e.symm
theorem gridcell {w : World} {B i n c : Nat} {A : Option Addr} {us : List Value} {u : Value} (h : w.ownsRow B 32 1 (.slice A n c) n us) (hu : us[i]? = some u) :
    ∃ g, A = some ⟨g, 0, none⟩ ∧ w.cell? ⟨g, i, none⟩ = some u ∧ B ≤ g ∧ g < w.heap.size := by
  have hi := (List.getElem?_eq_some_iff.1 hu).1
  have hl := h.1
  rcases h.2 with ⟨hf, _⟩ | ⟨g, cap, cur, hf, _⟩
  · have := congrArg (fun v => match v with | .slice _ n _ => n | _ => 0) hf
    simp at this
    omega
  · obtain ⟨rfl, rfl⟩ : A = some ⟨g, 0, none⟩ ∧ c = cap := by simpa using hf
    have := h.cellAt i (by omega)
    rw [hu] at this
    exact ⟨g, rfl, this, (h.lt g rfl).1, (h.lt g rfl).2⟩
/-- the rows of -1, the first k -/
def minusK (P n k : Nat) : List (List Int) := (List.range k).map (fun _ => rowG n fun _ => -1) ++ List.replicate (P - k) []
theorem minusK_len {P n k : Nat} (h : k ≤ P) : (minusK P n k).length = P := by simp [minusK]; omega
theorem minusK_zero (P n : Nat) : minusK P n 0 = List.replicate P [] := by simp [minusK]
theorem minusK_all (P n : Nat) : minusK P n P = gridG P n fun _ _ => -1 := by simp [minusK, gridG]
theorem minusK_succ {P n k : Nat} (h : k < P) : (minusK P n k).set k (rowG n fun _ => -1) = minusK P n (k + 1) := by
  unfold minusK
  obtain ⟨m, hm⟩ : ∃ m, P - k = m + 1 := ⟨P - k - 1, by omega⟩
  rw [List.set_append, if_neg (by simp), List.length_map, List.length_range, Nat.sub_self, hm, List.replicate_succ, List.set_cons_zero, show P - (k + 1) = m from by omega, List.range_succ, List.map_append, List.append_assoc]
  rfl
theorem rep_row (n : Nat) : List.replicate n (-1 : Int) = rowG n fun _ => -1 := by
  unfold rowG
  apply List.ext_getElem?
  intro i
  by_cases hi : i < n
  · simp [hi]
  · rw [List.getElem?_eq_none (by simp; omega), List.getElem?_eq_none (by simp; omega)]
/-- what there is behind the two new rows of words -/
def CutF (G : Game) (w wx : World) (a b : Value) (tm : Value) (us : List Value) (cs : Array Value) : Prop :=
  wx.ownsRow w.heap.size 67 1 a G.P (cellsU (codesL G.P G.n G.tk)) ∧ (∃ gb, b = .slice (some ⟨gb, 0, none⟩) G.P G.P ∧ Blk wx gb 67 (cellsU (codesL G.P G.n fun _ _ => false)).toArray ∧ w.heap.size ≤ gb ∧ a.ownBlock ≠ some gb) ∧
    OwnG wx w.heap.size tm us (gridG G.P G.n fun _ _ => -1) ∧ Blk wx w.heap.size 95 cs ∧ Below w.heap.size w wx
theorem blk_nums {w : World} {g P : Nat} {xs : List Nat} (h : Blk w g 67 (cellsU xs).toArray) (hl : xs.length = P) : Nums w (.slice (some ⟨g, 0, none⟩) P P) xs := by
  subst hl
  refine ⟨_, _, rfl, fun _ => ⟨g, 0, rfl, Nat.le_refl _, fun j u hu => ?_⟩⟩
  rw [Nat.zero_add, h.cell j]
  simpa using hu
theorem own_nums {w : World} {B P : Nat} {A : Option Addr} {c : Nat} {xs : List Nat} (h : w.ownsRow B 67 1 (.slice A P c) P (cellsU xs)) (hl : xs.length = P) : Nums w (.slice A P c) xs := by
  subst hl; exact Reads.of_own h
theorem clone_codes {P n : Nat} {W : Nat → Nat → Bool} {A : Option Addr} {c : Nat} (w : World) (h : Nums w (.slice A P c) (codesL P n W)) (hP : P ≤ 200) :
    Calls Try.prog 165 #[.slice A P c] w fun e w' => ∃ A c, e = .returned (.slice A P c) ∧ w'.ownsRow w.heap.size 67 1 (.slice A P c) P (cellsU (codesL P n W)) ∧ Below w.heap.size w w' := by
  have h_ := cloneU_any (.slice A P c) (codesL P n W) w h (by rw [codesL_len]; omega)
  rw [codesL_len] at h_
  exact h_
theorem zeros_codes (P n : Nat) : List.replicate P (0 : Nat) = codesL P n fun _ _ => false := by
  apply List.ext_getElem?
  intro i
  by_cases hi : i < P
  · rw [codesL_at hi, List.getElem?_replicate, if_pos hi, numOf_zero.2 (fun _ _ => rfl)]
  · rw [List.getElem?_eq_none (by simp; omega), List.getElem?_eq_none (by rw [codesL_len]; omega)]
theorem new_zeros (w : World) (P n : Nat) : Blk (w.alloc (.cells (madeCells #[.int .u64 0] P) 67)) w.heap.size 67 (cellsU (codesL P n fun _ _ => false)).toArray := by
  have h := Blk.new w 67 (madeCells #[.int .u64 0] P)
  rw [show (cellsU (codesL P n fun _ _ => false)).toArray = madeCells #[.int .u64 0] P from ?_]
  · exact h
  · rw [← zeros_codes]
    apply Array.ext'
    rw [toList_madeCells_one]
    simp [cellsU]
theorem CutF.cloned {G : Game} {w w1 : World} {a tm : Value} {us : List Value} {cs : Array Value} (ha : w1.ownsRow w.heap.size 67 1 a G.P (cellsU (codesL G.P G.n G.tk))) (ht : OwnG w1 w.heap.size tm us (gridG G.P G.n fun _ _ => -1)) (hb : Blk w1 w.heap.size 95 cs) (hB : Below w.heap.size w w1) :
    CutF G w (w1.alloc (.cells (madeCells #[.int .u64 0] G.P) 67)) a (.slice (some ⟨w1.heap.size, 0, none⟩) G.P G.P) tm us cs := by
  have hba := (Below.refl w1.heap.size w1).alloc (Nat.le_refl _) (.cells (madeCells #[.int .u64 0] G.P) 67)
  exact ⟨ha.alloc _, ⟨w1.heap.size, rfl, new_zeros w1 G.P G.n, hB.size, fun e => by have := (ha.lt _ e).2; omega⟩, ht.below hba, hb.alloc _, hB.alloc hB.size _⟩
theorem CutF.made {G : Game} {w w1 w2 : World} {a tm : Value} {us : List Value} {cs : Array Value} {gb : Nat} (ha : w2.ownsRow w1.heap.size 67 1 a G.P (cellsU (codesL G.P G.n G.tk))) (hg : Blk w1 gb 67 (cellsU (codesL G.P G.n fun _ _ => false)).toArray) (hgb : w.heap.size ≤ gb)
    (ht : OwnG w1 w.heap.size tm us (gridG G.P G.n fun _ _ => -1)) (hb : Blk w1 w.heap.size 95 cs) (hB : Below w.heap.size w w1) (h12 : Below w1.heap.size w1 w2) :
    CutF G w w2 a (.slice (some ⟨gb, 0, none⟩) G.P G.P) tm us cs :=
  ⟨own_base ha hB.size, ⟨gb, rfl, hg.below h12 hg.lt, hgb, fun e => by have := (ha.lt _ e).1; have := hg.lt; omega⟩, ht.below h12, hb.below h12 hb.lt, btrans hB h12⟩
theorem grown_setRow (w : World) (g : Nat) (cs : Array Value) : w.grownBy (w.setRow g cs) (some g) := ⟨rfl, rfl, rfl, by rw [size_setRow]; exact Nat.le_refl _, fun k _ hk => setRow_other w g k cs (fun e => hk (by rw [e]))⟩
/-- the words are copied -/
theorem copied {w wr : World} {gb P : Nat} {Aw : Option Addr} {cw : Nat} {tm : Value} {us : List Value} {rows : List (List Int)} {xs : List Value} {old : Array Value} {cs : Array Value} (arr : Array Value)
    (ha : wr.ownsRow w.heap.size 67 1 (.slice Aw P cw) P xs) (hb : Blk wr gb 67 old) (hab : (Value.slice Aw P cw).ownBlock ≠ some gb) (hT : OwnG wr w.heap.size tm us rows) (hx : Blk wr w.heap.size 95 cs) (hB : Below w.heap.size w wr) (hg : w.heap.size ≤ gb) :
    ∃ w9, w9 = wr.setRow gb arr ∧ w9.ownsRow w.heap.size 67 1 (.slice Aw P cw) P xs ∧ Blk w9 gb 67 arr ∧ OwnG w9 w.heap.size tm us rows ∧ Blk w9 w.heap.size 95 cs ∧ Below w.heap.size w w9 := by
  have hne : w.heap.size ≠ gb := fun e => by
    unfold Blk at hb hx
    rw [e, hb] at hx
    have h2 : (67 : TypeId) = 95 := by injection hx with h1; injection h1
    exact absurd h2 (by decide)
  have hk := grown_setRow wr gb arr
  exact ⟨_, rfl, ha.kept hk (.inr hab), setRow_heap wr gb _ arr _ _ hb, OwnG.kept_b hT hb hk, hx.grown hk (fun e => hne (by simpa using e)), hB.grown hk hB.size (fun j e => by simp at e; omega)⟩
/-- the table in a round: k places are done, f is the row of place k -/
def midG (G : Game) (t k : Nat) (f : Nat → Int) : List (List Int) := gridG G.P G.n fun p => if p < k then tmTo G t p else if p = k then f else headT G t p
theorem midG_start (G : Game) (t : Nat) : gridG G.P G.n (headT G t) = midG G t 0 (headT G t 0) := by
  unfold midG
  refine gridG_congr fun p r _ _ => ?_
  rw [if_neg (by omega)]
  by_cases e : p = 0
  · subst e; rw [if_pos rfl]
  · rw [if_neg e]
theorem midG_at {G : Game} {t k : Nat} {f : Nat → Int} (hk : k < G.P) : (midG G t k f)[k]? = some (rowG G.n f) := by
  unfold midG; rw [gridG_at hk, if_neg (by omega), if_pos rfl]
theorem midG_len (G : Game) (t k : Nat) (f : Nat → Int) : (midG G t k f).length = G.P := gridG_len _ _ _
theorem midG_set {G : Game} {t k : Nat} {f f' : Nat → Int} (hk : k < G.P) : (midG G t k f).set k (rowG G.n f') = midG G t k f' := by
  unfold midG
  rw [gridG_set hk]
  refine gridG_congr fun p r _ _ => ?_
  by_cases e : p = k
  · subst e; rw [if_pos rfl, if_neg (by omega), if_pos rfl]
  · rw [if_neg e]
    by_cases h : p < k
    · rw [if_pos h, if_pos h]
    · rw [if_neg h, if_neg h, if_neg e, if_neg e]
theorem midG_next {G : Game} {t k : Nat} {f : Nat → Int} (h : ∀ r, r < G.n → f r = tmTo G t k r) : midG G t k f = midG G t (k + 1) (headT G t (k + 1)) := by
  unfold midG
  refine gridG_congr fun p r _ hr => ?_
  by_cases e : p = k
  · subst e; rw [if_neg (by omega), if_pos rfl, if_pos (by omega)]; exact h r hr
  · by_cases hp : p < k
    · rw [if_pos hp, if_pos (by omega)]
    · rw [if_neg hp, if_neg e, if_neg (by omega)]
      by_cases e2 : p = k + 1
      · subst e2; rw [if_pos rfl]
      · rw [if_neg e2]
theorem midG_all (G : Game) (t : Nat) (f : Nat → Int) : midG G t G.P f = gridG G.P G.n (headT G (t + 1)) := gridG_congr fun p r hp _ => by rw [if_pos hp]; rfl
/-- the row of place k, by the first j of the new nodes -/
def markF (G : Game) (t k j : Nat) (y : Nat) : Int := if (y : Int) ∈ (nw (fresh G t k) G.n).take j then (t : Int) else headT G t k y
theorem markF_zero (G : Game) (t k : Nat) : markF G t k 0 = headT G t k := by funext y; simp [markF]
theorem markF_all {G : Game} {t k : Nat} : ∀ r, r < G.n → markF G t k (nw (fresh G t k) G.n).length r = tmTo G t k r := fun r hr => by
  unfold markF
  rw [List.take_length, ← mark_is]
  by_cases h : fresh G t k r = true
  · rw [if_pos h, if_pos (mem_nw.2 ⟨r, hr, h, rfl⟩)]
  · rw [if_neg h, if_neg (fun hm => by
      obtain ⟨z, _, hz, e⟩ := mem_nw.1 hm
      obtain rfl : r = z := by omega
      exact h hz)]
theorem markF_set {G : Game} {t k j m : Nat} (h : (nw (fresh G t k) G.n)[j]? = some (m : Int)) (hm : m < G.n) : (rowG G.n (markF G t k j)).set m (t : Int) = rowG G.n (markF G t k (j + 1)) := by
  rw [rowG_set hm]
  refine rowG_congr fun y _ => ?_
  unfold markF
  rw [List.take_add_one, h]
  by_cases e : y = m
  · subst e; rw [if_pos rfl, if_pos (by simp)]
  · rw [if_neg e]
    have h9 : ((y : Int) ∈ (nw (fresh G t k) G.n).take j ++ (some (m : Int)).toList) ↔ (y : Int) ∈ (nw (fresh G t k) G.n).take j := by
      simp only [Option.toList, List.mem_append, List.mem_singleton]
      exact ⟨fun hh => hh.elim id (fun hh => absurd (by omega) e), .inl⟩
    by_cases h8 : (y : Int) ∈ (nw (fresh G t k) G.n).take j
    · rw [if_pos h8, if_pos (h9.2 h8)]
    · rw [if_neg h8, if_neg (fun hh => h8 (h9.1 hh))]

set_option maxHeartbeats 16000000 in
set_option maxRecDepth 100000 in
theorem findTimes_any (G : Game) (l : List Ed) (ml : List (List Int)) (cv tv mv xv : Value) (us : List Value) (w : World) (h : ChaseR w G l ml cv tv mv us) :
    Calls Try.prog 131 #[.agg #[cv, tv, mv, xv]] w fun e w' => ∃ A c us', e = .returned (.slice A (gridG G.P G.n (tms G)).length c) ∧ OwnG w' w.heap.size (.slice A (gridG G.P G.n (tms G)).length c) us' (gridG G.P G.n (tms G)) ∧ Below w.heap.size w w' := by
  obtain ⟨i1, hi1, hy0, hy1, hy2⟩ := info_parts infoRow
  obtain ⟨i2, hi2, hu0, hu1, hu2⟩ := info_parts infoU
  have hn := h.n8
  have hP := h.small
  have hbr : ∀ r, r < G.n → G.ball r r = true := fun r _ => by rw [h.ball]; simp [ballB]
  have hsome := h.some
  have HH := Lib.hid h
  have HBR := Lib.hid hbr
  obtain ⟨Ac, cc, rfl, -⟩ := h.closed.form
  obtain ⟨At, ct, rfl, -⟩ := h.taken.form
  have hcl := clos_len l G.n
  have htl := codesL_len G.P G.n G.tk
  rw [hcl, htl] at HH ⊢
  have b0 : Below w.heap.size w (w.alloc (.cells #[.slice Ac G.n cc, .slice At G.P ct, mv, xv] 95)) := (Below.refl _ _).alloc (Nat.le_refl _) _
  have g0 := Blk.new w 95 #[.slice Ac G.n cc, .slice At G.P ct, mv, xv]
  have hmk := fun (W : World) => run_make_rowN (P := Try.prog) 42 32 i1 (.slice none 0 0) Try.underlying42 hi1 hy0 .i64 .i64 G.P G.P (Nat.le_refl _) (by rw [hy2]; omega) (by omega) W
  rw [hy1] at hmk
  have HM := Lib.hid ((OwnG.made (w.alloc (.cells #[.slice Ac G.n cc, .slice At G.P ct, mv, xv] 95)) G.P (by unfold maxLen; omega)).base (show w.heap.size ≤ _ from b0.size))
  have HB1 := Lib.hid (b0.alloc b0.size (.cells (madeCells #[.slice none 0 0] (G.P * 1)) 32))
  have HG1 := Lib.hid (g0.alloc (.cells (madeCells #[.slice none 0 0] (G.P * 1)) 32))
  obtain ⟨p0, p1, p2, p3⟩ := blk4 g0
  rw [Nat.mul_one] at HM HB1 HG1
  rw [World.size_alloc] at HM
  clear h hbr hcl htl b0 g0
  go_enter Try.func131, Try.ntmps131
  go_wp2_with fail
  clear p0 p1 p2 p3 hmk
  go_loopg [18] G.P (fun g i wr => ∃ (k : Nat) (us : List Value), k + g = G.P ∧ i = .int .i64 (k : Int) ∧ OwnG wr w.heap.size (.slice (some ⟨w.heap.size + 1, 0, none⟩) G.P G.P) us (minusK G.P G.n k) ∧ Blk wr w.heap.size 95 #[.slice Ac G.n cc, .slice At G.P ct, mv, xv] ∧ Below w.heap.size w wr)
  case atStart => exact ⟨0, _, by omega, rfl, by rw [minusK_zero]; exact HM.out, HG1.out, HB1.out⟩
  case round =>
    clear HM HG1 HB1
    obtain ⟨k, us, hkg, rfl, hG, hgb, hB⟩ := hrel
    obtain ⟨p0, p1, p2, p3⟩ := blk4 hgb
    have hsz := hB.size
    cases gk with
    | succ g2 =>
      have hlt : k < G.P := by omega
      have hlt' : (k : Int) < (G.P : Int) := by omega
      have hn1 := hsome (by omega)
      have HRP := Lib.hid (fun (W : World) (hx : W.cell? ⟨wr.heap.size, 0, none⟩ = some (.int .i64 (-1))) => repeat_any (-1) wr.heap.size G.n W hn hn1 hx)
      have HG := Lib.hid hG
      have HB := Lib.hid hB
      have HGB := Lib.hid hgb
      have q0 := (hgb.alloc (.cells #[.int .i64 (-1)] 3)).cell 0
      clear hG hgb hB
      go_wp2_with fail
      refine (HRP.out _ ((Blk.new wr 3 #[.int .i64 (-1)]).cell 0)).mono ?_
      rintro e w3 ⟨A3, c3, rfl, o3, b3⟩
      have d3 : Below wr.heap.size wr w3 := btrans ((Below.refl wr.heap.size wr).alloc (Nat.le_refl _) (.cells #[.int .i64 (-1)] 3)) b3
      have o3' := own_base (B' := wr.heap.size) o3 (by simp)
      rw [rep_row] at o3' ⊢
      have hG3 := HG.out.below d3
      have hrl := minusK_len (P := G.P) (n := G.n) (k := k) (by omega)
      have h1 := hG3.1
      rw [hrl] at h1
      have hul := hG3.len
      rw [hrl] at hul
      obtain ⟨u0, hu0⟩ : ∃ u, us[k]? = some u := ⟨_, List.getElem?_eq_getElem (by omega)⟩
      have f0 := h1.cellAt k (by omega)
      rw [hu0] at f0
      have z0 := h1.frozenAt k
      have hgr := h1.lt (w.heap.size + 1) rfl
      have HS : Hid (OwnG (w3.setCell ⟨w.heap.size + 1, k, none⟩ (.slice A3 (rowG G.n fun _ => -1).length c3)) w.heap.size (.slice (some ⟨w.heap.size + 1, 0, none⟩) G.P G.P) (us.set k (.slice A3 (rowG G.n fun _ => -1).length c3)) (minusK G.P G.n (k + 1))) := by
        have h9 : OwnG w3 w.heap.size (.slice (some ⟨w.heap.size + 1, 0, none⟩) (minusK G.P G.n k).length G.P) us (minusK G.P G.n k) := by rw [hrl]; exact hG3
        have hfr := OwnG.fresh HG.out o3'
        have := OwnG.store h9 (by rw [hrl]; exact hlt) (own_base o3' hsz) (fun i x b _ hx hb => hfr i x b hx hb)
        rw [minusK_succ hlt, hrl] at this
        exact this
      have HB3 := Lib.hid ((btrans HB.out d3).setCell (p := ⟨w.heap.size + 1, k, none⟩) (by simp) (.slice A3 (rowG G.n fun _ => -1).length c3))
      have HG3 := Lib.hid ((HGB.out.below d3 HGB.out.lt).far (p := ⟨w.heap.size + 1, k, none⟩) (by simp) (.slice A3 (rowG G.n fun _ => -1).length c3))
      clear hG3 h1 hrl hul b3 o3 o3' d3 p0 p1 p2 p3 q0
      go_wp2_with fail
      go_roundg g2
      case measure => omega
      case rel => exact ⟨k + 1, _, by omega, by go_num, HS.out, HG3.out, HB3.out⟩
    | zero =>
      obtain rfl : k = G.P := by omega
      rw [minusK_all] at hG
      have HG := Lib.hid hG
      have HB := Lib.hid hB
      have HGB := Lib.hid hgb
      have hmk := fun (W : World) => run_make_rowN (P := Try.prog) 63 67 i2 (.int .u64 0) Try.underlying63 hi2 hu0 .i64 .i64 G.P G.P (Nat.le_refl _) (by rw [hu2]; omega) (by omega) W
      rw [hu1] at hmk
      clear hG hgb hB
      go_wp2_with fail
      go_cut [5, 6] (fun a b wx => CutF G w wx a b (.slice (some ⟨w.heap.size + 1, 0, none⟩) G.P G.P) us #[.slice Ac G.n cc, .slice At G.P ct, mv, xv])
      case first =>
        obtain ⟨p0, p1, p2, p3⟩ := blk4 HGB.out
        have HC0 := Lib.hid (clone_codes wr.drew (HH.out.taken.below HB.out.drew) hP)
        have HC1 := Lib.hid (clone_codes (wr.alloc (.cells (madeCells #[.int .u64 0] G.P) 67)).drew (HH.out.taken.below (HB.out.alloc HB.out.size _).drew) hP)
        have HGA := Lib.hid (HGB.out.alloc (.cells (madeCells #[.int .u64 0] G.P) 67))
        refine wp_region_held_drew (S := (fun w' : World => w'.cell? ⟨w.heap.size, 1, none⟩ = some (.slice At G.P ct))) (by kernel_rfl) (by (try dsimp only); simp [*]) (fun hHeld => ?_)
        change wpAnyH _ _ _ _ _ _ #[false, false, false, false, false, false, false, false, false] _ _
        refine wpAnyH_take (i := 0) (oi := ⟨some 30, _, _, _, _, _⟩) (v := ?_) rfl (by kernel_rfl) (by kernel_rfl) (by kernel_rfl) (fun _ _ _ h => h) (Or.inl ⟨by rfl, ?_⟩) (by assumption) ?_
        rotate_left
        · (intro w hSw; (try dsimp only at hSw); go_simp; (try (with_reducible rfl)))
        try simp only [Act.put, List.setIfInBounds_toArray, List.set_cons_zero, List.set_cons_succ]
        refine wpAnyH_take (i := 1) (oi := ⟨some 31, _, _, _, _, _⟩) (v := ?_) rfl (by kernel_rfl) (by kernel_rfl) (by kernel_rfl) (fun _ _ _ h => h) (Or.inl ⟨by rfl, ?_⟩) (by assumption) ?_
        rotate_left
        · (intro w hSw; (try dsimp only at hSw); go_simp; (try (with_reducible rfl)))
        try simp only [Act.put, List.setIfInBounds_toArray, List.set_cons_zero, List.set_cons_succ]
        refine wpAnyH_take (i := 3) (oi := ⟨some 33, _, _, _, _, _⟩) (v := ?_) rfl (by kernel_rfl) (by kernel_rfl) (by kernel_rfl) (fun _ _ _ h => h) (Or.inl ⟨by rfl, ?_⟩) (by assumption) ?_
        rotate_left
        · (intro w hSw; (try dsimp only at hSw); go_simp; (try (with_reducible rfl)))
        try simp only [Act.put, List.setIfInBounds_toArray, List.set_cons_zero, List.set_cons_succ]
        refine wpAnyH_take (i := 4) (oi := ⟨some 34, _, _, _, _, _⟩) (v := ?_) rfl (by kernel_rfl) (by kernel_rfl) (by kernel_rfl) (fun _ _ _ h => h) (Or.inl ⟨by rfl, ?_⟩) (by assumption) ?_
        rotate_left
        · (intro w hSw; (try dsimp only at hSw); go_simp; (try (with_reducible rfl)))
        try simp only [Act.put, List.setIfInBounds_toArray, List.set_cons_zero, List.set_cons_succ]
        refine wpAnyH_take (i := 5) (oi := ⟨some 35, _, _, _, _, _⟩) (v := ?_) rfl (by kernel_rfl) (by kernel_rfl) (by kernel_rfl) (fun _ _ _ h => h) (Or.inl ⟨by rfl, ?_⟩) (by assumption) ?_
        rotate_left
        · (intro w hSw; (try dsimp only at hSw); go_simp; (try (with_reducible rfl)))
        try simp only [Act.put, List.setIfInBounds_toArray, List.set_cons_zero, List.set_cons_succ]
        refine wpAnyH_ready (rs := [2, 6]) (by kernel_rfl) (by simp) ?_
        refine AllReadyH.cons (o := ⟨some 32, _, _, _, _, _⟩) rfl (fun K hK => ?_) (AllReadyH.cons (o := ⟨some 36, _, _, _, _, _⟩) rfl (fun K hK => ?_) AllReadyH.nil)
        · go_simp
          go_at_call 165
          refine HC0.out.mono ?_
          rintro e w3 ⟨A3, c3, rfl, o3, b3⟩
          have d3 : Below wr.heap.size wr w3 := (Below.refl _ _).drew.trans b3
          have hb3 := HGB.out.below d3 HGB.out.lt
          obtain ⟨q0, q1, q2, q3⟩ := blk4 hb3
          go_wp2_with fail
          refine hK.out _ _ q1 (fun hHeld => ?_)
          clear hK K
          refine wpAnyH_take (i := 7) (oi := ⟨some 5, _, _, _, _, _⟩) (v := ?_) rfl (by kernel_rfl) (by kernel_rfl) (by kernel_rfl) (fun _ _ _ h => h) (Or.inl ⟨by rfl, ?_⟩) (by assumption) ?_
          rotate_left
          · (intro w hSw; (try dsimp only at hSw); go_simp; (try (with_reducible rfl)))
          try simp only [Act.put, List.setIfInBounds_toArray, List.set_cons_zero, List.set_cons_succ]
          refine wpAnyH_ready (rs := [6]) (by kernel_rfl) (by simp) ?_
          refine AllReadyH.cons rfl (fun K hK => ?_) AllReadyH.nil
          go_simp
          refine hK.out _ _ ((by rw [(Below.refl w3.heap.size w3).alloc (Nat.le_refl _) _ |>.cell (p := ⟨w.heap.size, 1, none⟩) hb3.lt]; exact q1)) (fun hHeld => ?_)
          clear hK K
          try simp only [List.setIfInBounds_toArray, List.set_cons_zero, List.set_cons_succ]
          refine wpAnyH_take (i := 8) (oi := ⟨some 6, _, _, _, _, _⟩) (v := ?_) rfl (by kernel_rfl) (by kernel_rfl) (by kernel_rfl) (fun _ _ _ h => h) (Or.inl ⟨by rfl, ?_⟩) (by assumption) ?_
          rotate_left
          · (intro w hSw; (try dsimp only at hSw); go_simp; (try (with_reducible rfl)))
          try simp only [Act.put, List.setIfInBounds_toArray, List.set_cons_zero, List.set_cons_succ]
          refine wpAnyH_done (by kernel_rfl) ?_ _
          clear hHeld
          go_wp2_with fail
          go_meet
          exact CutF.cloned (own_base o3 HB.out.size) (HG.out.below d3) hb3 (btrans HB.out d3)
        · go_simp
          refine hK.out _ _ ((show Blk (wr.alloc (.cells (madeCells #[.int .u64 0] G.P) 67)).drew w.heap.size 95 #[.slice Ac G.n cc, .slice At G.P ct, mv, xv] from HGA.out).cell 1) (fun hHeld => ?_)
          clear hK K
          refine wpAnyH_ready (rs := [2]) (by kernel_rfl) (by simp) ?_
          refine AllReadyH.cons (o := ⟨some 32, _, _, _, _, _⟩) rfl (fun K hK => ?_) AllReadyH.nil
          go_simp
          go_at_call 165; refine HC1.out.mono ?_; rintro e w3 ⟨A3, c3, rfl, o4, b4⟩; have k1 : w3.cell? ⟨w.heap.size, 1, none⟩ = some (.slice At G.P ct) := ((show Blk (wr.alloc (.cells (madeCells #[.int .u64 0] G.P) 67)).drew w.heap.size 95 #[.slice Ac G.n cc, .slice At G.P ct, mv, xv] from HGA.out).below b4 HGA.out.lt).cell 1
          go_wp2_with fail
          refine hK.out _ _ (by (try dsimp only); simp [*]) (fun hHeld => ?_)
          clear hK K
          try simp only [List.setIfInBounds_toArray, List.set_cons_zero, List.set_cons_succ]
          refine wpAnyH_take (i := 7) (oi := ⟨some 5, _, _, _, _, _⟩) (v := ?_) rfl (by kernel_rfl) (by kernel_rfl) (by kernel_rfl) (fun _ _ _ h => h) (Or.inl ⟨by rfl, ?_⟩) (by assumption) ?_
          rotate_left
          · (intro w hSw; (try dsimp only at hSw); go_simp; (try (with_reducible rfl)))
          try simp only [Act.put, List.setIfInBounds_toArray, List.set_cons_zero, List.set_cons_succ]
          refine wpAnyH_take (i := 8) (oi := ⟨some 6, _, _, _, _, _⟩) (v := ?_) rfl (by kernel_rfl) (by kernel_rfl) (by kernel_rfl) (fun _ _ _ h => h) (Or.inl ⟨by rfl, ?_⟩) (by assumption) ?_
          rotate_left
          · (intro w hSw; (try dsimp only at hSw); go_simp; (try (with_reducible rfl)))
          try simp only [Act.put, List.setIfInBounds_toArray, List.set_cons_zero, List.set_cons_succ]
          refine wpAnyH_done (by kernel_rfl) ?_ _
          clear hHeld
          go_wp2_with fail
          go_meet
          exact CutF.made (w1 := (wr.alloc (.cells (madeCells #[.int .u64 0] G.P) 67)).drew) o4 (new_zeros wr G.P G.n) HB.out.size (HG.out.below ((Below.refl _ _).alloc (Nat.le_refl _) _).drew) (HGB.out.alloc _) (HB.out.alloc HB.out.size _).drew b4
      case rest =>
        clear HG HB HGB hmk
        obtain ⟨ha, ⟨gb, rfl, hbb, hgb', hab⟩, ht, hbx, hB⟩ := hcut
        obtain ⟨Aw, cw, rfl⟩ := own_form ha
        have HA := Lib.hid ha
        have HBB := Lib.hid hbb
        have HAB := Lib.hid hab
        have HT := Lib.hid ht
        have HX := Lib.hid hbx
        have HB := Lib.hid hB
        have hsz1 : (Try.prog.info? 67).map (·.size) = some 1 := by kernel_rfl
        have hPn : G.P * G.n ≤ 1600 := by have := Nat.mul_le_mul hP hn; omega
        clear ha hbb hab ht hbx hB
        go_wp2_with fail
        go_loopg [7] (G.P * G.n + 1) (fun g tv wr' => ∃ t : Nat, tv = .int .i64 (t : Int) ∧ G.P * G.n + 1 ≤ cntP G t + g ∧ t ≤ cntP G t ∧ wr'.ownsRow w.heap.size 67 1 (.slice Aw G.P cw) G.P (cellsU (codesL G.P G.n (win G t))) ∧
          Blk wr' gb 67 (cellsU (codesL G.P G.n (prevW G t))).toArray ∧ OwnG wr' w.heap.size (.slice (some ⟨w.heap.size + 1, 0, none⟩) G.P G.P) us (gridG G.P G.n (headT G t)) ∧ Blk wr' w.heap.size 95 #[.slice Ac G.n cc, .slice At G.P ct, mv, xv] ∧ Below w.heap.size w wr')
        case atStart => exact ⟨0, rfl, by omega, Nat.zero_le _, HA.out, HBB.out, HT.out, HX.out, HB.out⟩
        case round =>
          clear HA HBB HT HX HB
          obtain ⟨t, rfl, hmeas, htc, ha, hbb, hT, hbx, hB⟩ := hrel
          have hle := cntP_le G t
          have HEQ := Lib.hid (equalU_any G.P (.slice Aw G.P cw) (.slice (some ⟨gb, 0, none⟩) G.P G.P) (codesL G.P G.n (win G t)) (codesL G.P G.n (prevW G t)) wr (own_nums ha (codesL_len _ _ _)) (blk_nums hbb (codesL_len _ _ _)) (codesL_len _ _ _) (codesL_len _ _ _) (by omega))
          by_cases he : codesL G.P G.n (win G t) = codesL G.P G.n (prevW G t)
          · rw [decide_eq_true he] at HEQ
            have HRES : Hid (gridG G.P G.n (headT G t) = gridG G.P G.n (tms G)) := gridG_congr (stop_is HBR.out (codesL_inj he)).2
            have HTT := Lib.hid hT
            have HB := Lib.hid hB
            have HGL := Lib.hid (gridG_len G.P G.n (tms G))
            clear he ha hbb hT hbx hB hmeas htc hle
            go_wp2_with fail
            refine HEQ.out.mono ?_
            rintro e w' ⟨rfl, nd, rfl⟩
            go_wp2_with fail
            go_ret
            refine ⟨some ⟨w.heap.size + 1, 0, none⟩, G.P, us, by rw [HGL.out]; rfl, ?_, below_drewN HB.out nd⟩
            rw [← HRES.out, gridG_len]
            exact HTT.out.below (below_drewN (Below.refl _ _) nd)
          · rw [decide_eq_false he] at HEQ
            have hgrow := cntP_grow (G := G) (t := t) (fun hh => he (codesL_congr hh))
            have hP0 : 0 < G.P := by
              rcases Nat.eq_zero_or_pos G.P with h | h
              · exact absurd (by unfold codesL; rw [h]; rfl) he
              · exact h
            have hn0 := hsome hP0
            obtain ⟨g2, rfl⟩ : ∃ g2, gk = g2 + 1 := ⟨gk - 1, by omega⟩
            have HMS : Hid (G.P * G.n + 1 ≤ cntP G (t + 1) + g2 ∧ t + 1 ≤ cntP G (t + 1)) := by constructor <;> omega
            have ht16 : t ≤ 1600 := by omega
            have HA := Lib.hid ha
            have HBB := Lib.hid hbb
            have HT := Lib.hid hT
            have HX := Lib.hid hbx
            have HB := Lib.hid hB
            clear he ha hbb hT hbx hB hmeas htc hle hgrow
            go_wp2_with fail
            refine HEQ.out.mono ?_
            rintro e w' ⟨rfl, nd, rfl⟩
            have HA1 := Lib.hid (own_below HA.out (below_drewN (Below.refl _ _) nd))
            have HBB1 := Lib.hid (HBB.out.drewN nd)
            have HT1 := Lib.hid (HT.out.below (below_drewN (Below.refl _ _) nd))
            have HX1 := Lib.hid (HX.out.drewN nd)
            have HB1 := Lib.hid (below_drewN HB.out nd)
            clear HA HBB HT HX HB HEQ
            generalize wr.drewN nd = w1 at *
            rw [midG_start] at HT1
            go_wp2_with fail
            go_loopg [45] G.P (fun g kv wr => ∃ k : Nat, k + g = G.P ∧ kv = .int .i64 (k : Int) ∧ OwnG wr w.heap.size (.slice (some ⟨w.heap.size + 1, 0, none⟩) G.P G.P) us (midG G t k (headT G t k)) ∧ wr.ownsRow w.heap.size 67 1 (.slice Aw G.P cw) G.P (cellsU (codesL G.P G.n (win G t))) ∧
              Blk wr gb 67 (cellsU (codesL G.P G.n (prevW G t))).toArray ∧ Blk wr w.heap.size 95 #[.slice Ac G.n cc, .slice At G.P ct, mv, xv] ∧ Below w.heap.size w wr)
            case atStart => exact ⟨0, by omega, rfl, HT1.out, HA1.out, HBB1.out, HX1.out, HB1.out⟩
            case round =>
              clear HA1 HBB1 HT1 HX1 HB1
              obtain ⟨k, hkg, rfl, hT, ha, hbb, hbx, hB⟩ := hrel
              cases gk with
              | zero =>
                obtain rfl : k = G.P := by omega
                rw [midG_all] at hT
                obtain ⟨gw, cw', hf⟩ : ∃ g cap, Value.slice Aw G.P cw = .slice (some ⟨g, 0, none⟩) G.P cap := by
                  rcases ha.2 with ⟨hf, hz⟩ | ⟨g, cap, cur, hf, _⟩
                  · omega
                  · exact ⟨g, cap, hf⟩
                obtain ⟨rfl, rfl⟩ : Aw = some ⟨gw, 0, none⟩ ∧ cw = cw' := by simpa using hf
                have HAFT := Lib.hid (copied (cellsU (codesL G.P G.n (win G t))).toArray ha hbb HAB.out hT hbx hB hgb')
                have HSRC : Hid (∀ j v, (cellsU (codesL G.P G.n (win G t)))[j]? = some v → wr.cell? ((⟨gw, 0, none⟩ : Addr).add j) = some v) := fun j v hv => by
                  have hj : j < G.P := by have := (List.getElem?_eq_some_iff.1 hv).1; rw [cellsU_len, codesL_len] at this; exact this
                  have h_ := ha.cellAt j (by omega)
                  rw [hv] at h_
                  rw [show ((⟨gw, 0, none⟩ : Addr).add j) = ⟨gw, j, none⟩ from by rw [apps.addr_add, Nat.zero_add]]
                  exact h_
                have HLN : Hid ((cellsU (codesL G.P G.n (win G t))).length = Nat.min G.P G.P) := by show _ = _; rw [cellsU_len, codesL_len]; exact (Nat.min_self _).symm
                have HSZ : Hid (0 + (cellsU (codesL G.P G.n (win G t))).length ≤ (cellsU (codesL G.P G.n (prevW G t))).toArray.size) := by
                  show _ ≤ _
                  rw [List.size_toArray, cellsU_len, cellsU_len, codesL_len, codesL_len]; omega
                have HARR : Hid (((cellsU (codesL G.P G.n (prevW G t))).toArray.toList.take 0 ++ (cellsU (codesL G.P G.n (win G t)) ++ (cellsU (codesL G.P G.n (prevW G t))).toArray.toList.drop (0 + (cellsU (codesL G.P G.n (win G t))).length))).toArray = (cellsU (codesL G.P G.n (win G t))).toArray) := by
                  show _ = _
                  rw [List.take_zero, List.nil_append, List.drop_eq_nil_of_le (by simp [cellsU_len, codesL_len]), List.append_nil]
                have HOU := Lib.hid (oneU (codesL G.P G.n (win G t)))
                have HBB := Lib.hid hbb
                have HEX := Lib.hid (fun (W : World) (hW : Below w.heap.size w W) (ho : W.ownsRow w.heap.size 67 1 (.slice (some ⟨gw, 0, none⟩) G.P cw) G.P (cellsU (codesL G.P G.n (win G t)))) => extend_any G t w.heap.size l ml (.slice Ac G.n cc) (.slice At G.P ct) mv xv _ _ w W HH.out hW (Nat.le_refl _) ho)
                have HAB2 := Lib.hid HAB.out
                clear hT ha hbb hbx hB hf
                go_wp2_with (refine wpList_copy_own (o := ⟨some 73, _, _, _, _, _⟩) rfl (.tmp 71) (.tmp 72) 63 63 rfl 67 Try.underlying63 hsz1 gb 0 G.P G.P ⟨gw, 0, none⟩ G.P cw rfl rfl _ 67 HBB.out _ HLN.out HSRC.out HSZ.out HOU.out ?_; rw [HARR.out]; obtain ⟨w9, e9, ha9, hb9, hT9, hx9, hB9⟩ := HAFT.out; rw [← e9]; clear e9; obtain ⟨p0, p1, p2, p3⟩ := blk4 hx9)
                have hB9s := hB9
                refine (HEX.out w9 hB9 ha9).mono ?_
                rintro e w10 ⟨⟨vv, rfl⟩, hw10, hg10⟩
                have HA := Lib.hid hw10
                have HBB := Lib.hid (hb9.grown hg10 (fun e => HAB2.out e.symm))
                have HT := Lib.hid (OwnG.kept_u hT9 ha9 hg10)
                have HX := Lib.hid (hx9.grown hg10 (fun e => own_ne ha9 hx9 (by decide) e.symm))
                have HB := Lib.hid (hB9.grown hg10 hB9.size (fun j e => (ha9.lt j e).1))
                clear hw10 hg10 ha9 hb9 hT9 hx9 hB9 hB9s p0 p1 p2 p3
                go_wp2_with fail
                go_roundg g2
                case measure => omega
                case rel => exact ⟨t + 1, by go_num, HMS.out.1, HMS.out.2, HA.out, HBB.out, HT.out, HX.out, HB.out⟩
              | succ g3 =>
                have hlt : k < G.P := by omega
                have hlt' : (k : Int) < (G.P : Int) := by omega
                have hk0 : (0 : Int) ≤ (k : Int) := by omega
                obtain ⟨u, hu, hur⟩ := hT.row (midG_at hlt)
                rw [rowG_len] at hur
                obtain ⟨gu, cu, rfl⟩ : ∃ gu cu, u = .slice (some ⟨gu, 0, none⟩) G.n cu := by
                  rcases hur.2 with ⟨_, hz⟩ | ⟨g, cap, cur, hf, _⟩
                  · omega
                  · exact ⟨g, cap, hf⟩
                have hgu := hur.lt gu rfl
                obtain ⟨gg, eg, f0, _⟩ := gridcell (by have h_ := hT.1; rw [midG_len] at h_; exact h_) hu
                obtain rfl : gg = w.heap.size + 1 := by simpa using eg.symm
                obtain ⟨gw, cw', hf⟩ : ∃ g cap, Value.slice Aw G.P cw = .slice (some ⟨g, 0, none⟩) G.P cap := by
                  rcases ha.2 with ⟨hf, hz⟩ | ⟨g, cap, cur, hf, _⟩
                  · omega
                  · exact ⟨g, cap, hf⟩
                obtain ⟨rfl, rfl⟩ : Aw = some ⟨gw, 0, none⟩ ∧ cw = cw' := by simpa using hf
                have c0 := ha.cellAt k (by omega)
                rw [cellsU_at (codesL_at hlt)] at c0
                have c1 : wr.cell? ⟨gb, k, none⟩ = some (.int .u64 ((numOf (prevW G t k) G.n : Nat) : Int)) := by
                  rw [hbb.cell k, List.getElem?_toArray, cellsU_at (codesL_at hlt)]
                have hand : bits .andNot .u64 ((numOf (win G t k) G.n : Nat) : Int) ((numOf (prevW G t k) G.n : Nat) : Int) = ((numOf (fresh G t k) G.n : Nat) : Int) := by
                  have h1 := numOf_lt (win G t k) hn
                  refine andNot_num _ _ _ (by omega) hn _ fun z _ => ?_
                  rw [numOf_bit]
                  unfold fresh
                  by_cases hz : z < G.n <;> simp [hz]
                have HND := Lib.hid (nodes_any (numOf (fresh G t k) G.n) wr.drew (by have := numOf_lt (fresh G t k) hn; omega))
                rw [nodes_num hn] at HND
                have hnl := nw_len (fresh G t k) G.n
                have HMM : Hid (∀ j (y : Int), (nw (fresh G t k) G.n)[j]? = some y → ∃ m : Nat, y = (m : Int) ∧ m < G.n) := fun j y hy => by
                  obtain ⟨z, e, hz, _⟩ := reach.nw_at hy
                  exact ⟨z, e, hz⟩
                have HMF := Lib.hid (fun j m (h : (nw (fresh G t k) G.n)[j]? = some ((m : Nat) : Int)) (hm : m < G.n) => markF_set h hm)
                have HMZ := Lib.hid (markF_zero G t k)
                have HMN : Hid (midG G t k (markF G t k (nw (fresh G t k) G.n).length) = midG G t (k + 1) (headT G t (k + 1))) := midG_next markF_all
                have HU := Lib.hid hu
                have HT := Lib.hid hT
                have HA := Lib.hid ha
                have HBB := Lib.hid hbb
                have HX := Lib.hid hbx
                have HB := Lib.hid hB
                have HGU := Lib.hid hgu
                clear hT hur hu hf hbb hbx hB hgu eg ha
                generalize numOf (win G t k) G.n = na at *
                generalize numOf (prevW G t k) G.n = nb at *
                generalize numOf (fresh G t k) G.n = nc at *
                generalize nw (fresh G t k) G.n = ns at *
                go_wp2_with fail
                refine wp_region_held_drew (S := (fun w' : World => w'.cell? ⟨gw, k, none⟩ = some (.int .u64 (na : Int)) ∧ w'.cell? ⟨gb, k, none⟩ = some (.int .u64 (nb : Int)))) (by kernel_rfl) (by (try dsimp only); simp [*]) (fun hHeld => ?_)
                change wpAnyH _ _ _ _ _ _ #[false, false, false, false, false, false, false, false, false, false, false, false] _ _
                refine wpAnyH_take (i := 0) (oi := ⟨some 50, _, _, _, _, _⟩) (v := ?_) rfl (by kernel_rfl) (by kernel_rfl) (by kernel_rfl) (fun _ _ _ h => h) (Or.inl ⟨by rfl, ?_⟩) (by assumption) ?_
                rotate_left
                · (intro w hSw; (try dsimp only at hSw); go_simp; (try (with_reducible rfl)))
                try simp only [Act.put, List.setIfInBounds_toArray, List.set_cons_zero, List.set_cons_succ]
                refine wpAnyH_take (i := 1) (oi := ⟨some 51, _, _, _, _, _⟩) (v := ?_) rfl (by kernel_rfl) (by kernel_rfl) (by kernel_rfl) (fun _ _ _ h => h) (Or.inl ⟨by rfl, ?_⟩) (by assumption) ?_
                rotate_left
                · (intro w hSw; (try dsimp only at hSw); go_simp; (try (with_reducible rfl)))
                try simp only [Act.put, List.setIfInBounds_toArray, List.set_cons_zero, List.set_cons_succ]
                refine wpAnyH_take (i := 2) (oi := ⟨some 52, _, _, _, _, _⟩) (v := ?_) rfl (by kernel_rfl) (by kernel_rfl) (by kernel_rfl) (fun _ _ _ h => h) (Or.inl ⟨by rfl, ?_⟩) (by assumption) ?_
                rotate_left
                · (intro w hSw; (try dsimp only at hSw); go_simp; (try (with_reducible rfl)))
                try simp only [Act.put, List.setIfInBounds_toArray, List.set_cons_zero, List.set_cons_succ]
                refine wpAnyH_take (i := 3) (oi := ⟨some 53, _, _, _, _, _⟩) (v := ?_) rfl (by kernel_rfl) (by kernel_rfl) (by kernel_rfl) (fun _ _ _ h => h) (Or.inl ⟨by rfl, ?_⟩) (by assumption) ?_
                rotate_left
                · (intro w hSw; (try dsimp only at hSw); go_simp; (try (with_reducible rfl)))
                try simp only [Act.put, List.setIfInBounds_toArray, List.set_cons_zero, List.set_cons_succ]
                refine wpAnyH_take (i := 4) (oi := ⟨some 54, _, _, _, _, _⟩) (v := ?_) rfl (by kernel_rfl) (by kernel_rfl) (by kernel_rfl) (fun _ _ _ h => h) (Or.inl ⟨by rfl, ?_⟩) (by assumption) ?_
                rotate_left
                · (intro w hSw; (try dsimp only at hSw); go_simp; (try (with_reducible rfl)))
                try simp only [Act.put, List.setIfInBounds_toArray, List.set_cons_zero, List.set_cons_succ]
                refine wpAnyH_take (i := 5) (oi := ⟨some 55, _, _, _, _, _⟩) (v := ?_) rfl (by kernel_rfl) (by kernel_rfl) (by kernel_rfl) (fun _ _ _ h => h) (Or.inl ⟨by rfl, ?_⟩) (by assumption) ?_
                rotate_left
                · (intro w hSw; (try dsimp only at hSw); go_simp; (try (with_reducible rfl)))
                try simp only [Act.put, List.setIfInBounds_toArray, List.set_cons_zero, List.set_cons_succ]
                refine wpAnyH_take (i := 6) (oi := ⟨some 56, _, _, _, _, _⟩) (v := ?_) rfl (by kernel_rfl) (by kernel_rfl) (by kernel_rfl) (fun _ _ _ h => h) (Or.inl ⟨by rfl, ?_⟩) (by assumption) ?_
                rotate_left
                · (intro w hSw; (try dsimp only at hSw); go_simp; (try (with_reducible rfl)))
                try simp only [Act.put, List.setIfInBounds_toArray, List.set_cons_zero, List.set_cons_succ]
                refine wpAnyH_take (i := 7) (oi := ⟨some 57, _, _, _, _, _⟩) (v := ?_) rfl (by kernel_rfl) (by kernel_rfl) (by kernel_rfl) (fun _ _ _ h => h) (Or.inl ⟨by rfl, ?_⟩) (by assumption) ?_
                rotate_left
                · (intro w hSw; (try dsimp only at hSw); go_simp; (try (with_reducible rfl)))
                try simp only [Act.put, List.setIfInBounds_toArray, List.set_cons_zero, List.set_cons_succ]
                refine wpAnyH_take (i := 8) (oi := ⟨some 58, _, _, _, _, _⟩) (v := ?_) rfl (by kernel_rfl) (by kernel_rfl) (by kernel_rfl) (fun _ _ _ h => h) (Or.inl ⟨by rfl, ?_⟩) (by assumption) ?_
                rotate_left
                · (intro w hSw; (try dsimp only at hSw); go_simp; (try (with_reducible rfl)))
                try simp only [Act.put, List.setIfInBounds_toArray, List.set_cons_zero, List.set_cons_succ]
                refine wpAnyH_take (i := 11) (oi := ⟨some 61, _, _, _, _, _⟩) (v := ?_) rfl (by kernel_rfl) (by kernel_rfl) (by kernel_rfl) (fun _ _ _ h => h) (Or.inl ⟨by rfl, ?_⟩) (by assumption) ?_
                rotate_left
                · (intro w hSw; (try dsimp only at hSw); go_simp; (try (with_reducible rfl)))
                try simp only [Act.put, List.setIfInBounds_toArray, List.set_cons_zero, List.set_cons_succ]
                refine wpAnyH_ready (rs := [9]) (by kernel_rfl) (by simp) ?_
                refine AllReadyH.cons (o := ⟨some 59, _, _, _, _, _⟩) rfl (fun K hK => ?_) AllReadyH.nil
                go_simp
                refine HND.out.mono ?_; rintro e w3 ⟨A4, c4, rfl, o4, b4⟩; have d4 : Below wr.heap.size wr w3 := (Below.refl _ _).drew.trans b4; have k0 := nearv.cell_keep c0 d4; have k1 := nearv.cell_keep c1 d4
                go_wp2_with fail
                refine hK.out _ _ (by (try dsimp only); simp [*]) (fun hHeld => ?_)
                clear hK K
                try simp only [List.setIfInBounds_toArray, List.set_cons_zero, List.set_cons_succ]
                refine wpAnyH_take (i := 10) (oi := ⟨some 60, _, _, _, _, _⟩) (v := ?_) rfl (by kernel_rfl) (by kernel_rfl) (by kernel_rfl) (fun _ _ _ h => h) (Or.inl ⟨by rfl, ?_⟩) (by assumption) ?_
                rotate_left
                · (intro w hSw; (try dsimp only at hSw); go_simp; (try (with_reducible rfl)))
                try simp only [Act.put, List.setIfInBounds_toArray, List.set_cons_zero, List.set_cons_succ]
                refine wpAnyH_done (by kernel_rfl) ?_ _
                clear k0 k1 hHeld
                have HO4 : Hid (w3.ownsRow wr.heap.size 3 1 (.slice A4 ns.length c4) ns.length (cellsI ns)) := o4
                have HAP : Hid ((Value.slice A4 ns.length c4).ownBlock ≠ some gu) := fun e => by
                  have h1 := (o4.lt _ e).1
                  have h2 := HGU.out.2
                  have h3 : wr.drew.heap.size = wr.heap.size := rfl
                  omega
                have HT3 : Hid (OwnG w3 w.heap.size (.slice (some ⟨w.heap.size + 1, 0, none⟩) G.P G.P) us (midG G t k (markF G t k 0))) := by
                  show OwnG _ _ _ _ _
                  rw [HMZ.out]
                  exact HT.out.below d4
                have HA3 := Lib.hid (own_below HA.out d4)
                have HBB3 := Lib.hid (HBB.out.below d4 HBB.out.lt)
                have HX3 := Lib.hid (HX.out.below d4 HX.out.lt)
                have HB3 := Lib.hid (btrans HB.out d4)
                clear o4 b4 d4 c0 c1 f0 HT HA HBB HX HB
                go_wp2_with fail
                go_loopg [61] ns.length (fun g jv wi => ∃ j : Nat, j + g = ns.length ∧ jv = .int .i64 (j : Int) ∧ OwnG wi w.heap.size (.slice (some ⟨w.heap.size + 1, 0, none⟩) G.P G.P) us (midG G t k (markF G t k j)) ∧ wi.ownsRow wr.heap.size 3 1 (.slice A4 ns.length c4) ns.length (cellsI ns) ∧
                  wi.ownsRow w.heap.size 67 1 (.slice (some ⟨gw, 0, none⟩) G.P cw) G.P (cellsU (codesL G.P G.n (win G t))) ∧ Blk wi gb 67 (cellsU (codesL G.P G.n (prevW G t))).toArray ∧ Blk wi w.heap.size 95 #[.slice Ac G.n cc, .slice At G.P ct, mv, xv] ∧ Below w.heap.size w wi)
                case atStart => exact ⟨0, by omega, rfl, HT3.out, HO4.out, HA3.out, HBB3.out, HX3.out, HB3.out⟩
                case round =>
                  clear HT3 HO4 HA3 HBB3 HX3 HB3
                  obtain ⟨j, hjg, rfl, hT, ho, ha, hbb, hbx, hB⟩ := hrel
                  cases gk with
                  | zero =>
                    obtain rfl : j = ns.length := by omega
                    rw [HMN.out] at hT
                    have HT := Lib.hid hT
                    have HA := Lib.hid ha
                    have HBB := Lib.hid hbb
                    have HX := Lib.hid hbx
                    have HB := Lib.hid hB
                    clear hT ha hbb hbx hB ho
                    go_wp2_with fail
                    go_roundg g3
                    case measure => omega
                    case rel => exact ⟨k + 1, by omega, by go_num, HT.out, HA.out, HBB.out, HX.out, HB.out⟩
                  | succ g5 =>
                    have hjt' : (j : Int) < (ns.length : Int) := by omega
                    obtain ⟨y, hy⟩ : ∃ y, ns[j]? = some y := ⟨_, List.getElem?_eq_getElem (by omega)⟩
                    obtain ⟨m, rfl, hm⟩ := HMM.out j y hy
                    obtain ⟨_, _, hf, hcc⟩ := (show Ints wr (.slice A4 ns.length c4) ns from Reads.of_own ho).form
                    cases hf
                    obtain ⟨g6, o6, rfl, q6⟩ := hcc j _ hy
                    have hur := hT.2.1 k _ _ HU.out (midG_at hlt)
                    rw [rowG_len] at hur
                    have f1 := hur.cellAt m (by omega)
                    obtain ⟨old, hold⟩ : ∃ old, (cellsI (rowG G.n (markF G t k j)))[m]? = some old := ⟨_, cellsI_at (rowG_at hm)⟩
                    rw [hold] at f1
                    have z1 := hur.frozenAt m
                    have hst := (hur.stored m (.int .i64 (t : Int))).1
                    rw [show (cellsI (rowG G.n (markF G t k j))).set m (.int .i64 (t : Int)) = cellsI (rowG G.n (markF G t k (j + 1))) from by rw [← HMF.out j m hy hm]; simp [cellsI, List.map_set]] at hst
                    have hgs := gset (World.grownBy.refl wr (some gu)) m (.int .i64 (t : Int))
                    have hTn := gridl.OwnG.mark hT HU.out (midG_at hlt) (r' := rowG G.n (markF G t k (j + 1))) (by rw [rowG_len]; exact hst) (by rw [rowG_len, rowG_len]) hgs
                    rw [midG_set hlt] at hTn
                    have HT := Lib.hid hTn
                    have HO := Lib.hid (ho.kept hgs (.inr HAP.out))
                    have HA := Lib.hid (own_kept ha hur (by decide) hgs)
                    have HBB := Lib.hid (hbb.far (p := ⟨gu, m, none⟩) (fun e => own_ne hur hbb (by decide) (by rw [e]; rfl)) (.int .i64 (t : Int)))
                    have HX := Lib.hid (hbx.far (p := ⟨gu, m, none⟩) (fun e => own_ne hur hbx (by decide) (by rw [e]; rfl)) (.int .i64 (t : Int)))
                    have HB := Lib.hid (hB.setCell (p := ⟨gu, m, none⟩) (hur.lt gu rfl).1 (.int .i64 (t : Int)))
                    have hmn : (m : Int) < (G.n : Int) := by omega
                    have hm0 : (0 : Int) ≤ (m : Int) := by omega
                    clear hT hTn ho ha hbb hbx hB hur hst hgs hcc hy hold
                    go_wp2_with fail
                    go_roundg g5
                    case measure => omega
                    case rel => exact ⟨j + 1, by omega, by go_num, HT.out, HO.out, HA.out, HBB.out, HX.out, HB.out⟩
end Go.Proofs.Ytjcnngnahijceaa.times
