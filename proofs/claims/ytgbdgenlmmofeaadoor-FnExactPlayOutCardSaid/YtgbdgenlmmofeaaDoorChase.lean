/- The contract of the program's chaseIn: the game of one cop. -/
import Derived.Test.YtgbdgenlmmofeaaDoorGameF
import Derived.Test.YtgbdgenlmmofeaaDoorTimeL
import Derived.Deep.AppendLies
import Derived.Deep.RegionHeldLaw
namespace Go.Proofs.YtgbdgenlmmofeaaDoor.times
open Go.RowKit P2 words edges ints good adjs fns sets rets covs bitsI bags gridr mids grid reps apps
set_option linter.unusedVariables false

theorem OwnG.kept_c {w w' : World} {B O : Nat} {t : TypeId} {v : Value} {us : List Value} {rows : List (List Int)} {cs : Array Value} (h : OwnG w B v us rows) (hO : Blk w O t cs) (h1 : 26 ≠ t) (h2 : 3 ≠ t) (hg : w.grownBy w' (some O)) : OwnG w' B v us rows :=
  ⟨h.1.kept hg (.inr (own_ne h.1 hO h1)), fun i u r hu hr => (h.2.1 i u r hu hr).kept hg (.inr (own_ne (h.2.1 i u r hu hr) hO h2)), h.2.2⟩
theorem gset1 (w : World) (g j : Nat) (u : Value) : w.grownBy (w.setCell ⟨g, j, none⟩ u) (some g) := gset (World.grownBy.refl w (some g)) j u
/-- the first k places -/
def pwK (k : Nat) : List Nat := (List.range k).map (2 ^ ·)
theorem pwK_len (k : Nat) : (pwK k).length = k := by simp [pwK]
theorem pwK_succ (k : Nat) : pwK (k + 1) = pwK k ++ [2 ^ k] := by simp [pwK, List.range_succ]
theorem cellsU_app (l m : List Nat) : cellsU (l ++ m) = cellsU l ++ cellsU m := by simp [cellsU]
theorem pwK_all (l : List Ed) (n : Nat) : pwK n = codesL (one l n).P (one l n).n (one l n).tk := by
  unfold pwK codesL
  refine List.map_congr_left fun p hp => ?_
  have hpn := List.mem_range.1 hp
  rw [← num_one hpn]
  refine num_ext fun z _ => ?_
  show decide (z = p) = (p == z)
  rw [Bool.eq_iff_iff, decide_eq_true_iff, beq_iff_eq]
  exact eq_comm
def mvK (l : List Ed) (n k : Nat) : List (List Int) := (List.range k).map (ballL l n)
theorem mvK_len (l : List Ed) (n k : Nat) : (mvK l n k).length = k := by simp [mvK]
theorem mvK_succ (l : List Ed) (n k : Nat) : mvK l n (k + 1) = mvK l n k ++ [ballL l n k] := by simp [mvK, List.range_succ]
theorem mvK_at {l : List Ed} {n k p : Nat} (h : p < k) : (mvK l n k)[p]? = some (ballL l n p) := by simp [mvK, h]
theorem clo_nodes {n : Nat} {l : List Ed} (hg : P2.Good (n : Int) l) {x : Nat} (hx : x < n) (hn : n ≤ 8) : nw (bitB (cloB l x)) 8 = ballL l n x := by
  unfold ballL
  rw [nw_more hn (fun k h1 _ => by
    unfold bitB
    rw [cloB_bit hg]
    cases ha : adj l (x : Int) (k : Int) with
    | false => simp; omega
    | true => have := (adj_node hg ha).2; omega)]
  exact nw_congr fun k _ => by unfold bitB; rw [cloB_bit hg]; rfl
theorem moves_one (l : List Ed) (n : Nat) : MovesOf (one l n) (mvK l n n) := by
  refine ⟨mvK_len l n n, fun p mvs h => ?_⟩
  have hp : p < n := by have := (List.getElem?_eq_some_iff.1 h).1; rwa [mvK_len] at this
  rw [mvK_at hp] at h
  cases h
  unfold ballL
  refine ⟨fun q hq => ?_, fun q hq => ?_⟩
  · obtain ⟨z, hz, _, rfl⟩ := mem_nw.1 hq
    show 0 ≤ (z : Int) ∧ (z : Int) < (n : Int)
    omega
  · rw [mem_nw]
    show ballB l p q = true ↔ _
    constructor
    · exact fun hb => ⟨q, hq, hb, rfl⟩
    · rintro ⟨z, _, hz, e⟩
      obtain rfl : q = z := by omega
      exact hz
theorem mvK_short {l : List Ed} {n : Nat} (hn : n ≤ 8) : ∀ mvs ∈ mvK l n n, mvs.length ≤ 200 := fun mvs h => by
  obtain ⟨p, _, rfl⟩ := List.mem_map.1 h
  have : (ballL l n p).length ≤ n := nw_len _ _
  omega

/-- a slice of words lies in another block than a game -/
theorem nums_ne {w : World} {A : Option Addr} {n c O : Nat} {xs : List Nat} {a1 a2 a3 a4 : Option Addr} {n1 n2 n3 n4 c1 c2 c3 c4 : Nat} {t : TypeId} (h : Nums w (.slice A n c) xs) (hb : Blk w O t #[.slice a1 n1 c1, .slice a2 n2 c2, .slice a3 n3 c3, .slice a4 n4 c4]) :
    0 < xs.length → ∀ g o, A = some ⟨g, o, none⟩ → g ≠ O := fun h0 g o e e2 => by
  subst e
  subst e2
  obtain ⟨_, _, hf, hx⟩ := h.form
  obtain ⟨x, hx0⟩ : ∃ x, xs[0]? = some x := ⟨_, List.getElem?_eq_getElem h0⟩
  cases hf
  obtain ⟨g', o', e3, hc⟩ := hx 0 x hx0
  cases e3
  rw [hb.cell (o + 0)] at hc
  match o, hc with
  | 0, hc => simp at hc
  | 1, hc => simp at hc
  | 2, hc => simp at hc
  | 3, hc => simp at hc
  | o + 4, hc => simp at hc
theorem nums_grown {w w' : World} {A : Option Addr} {n c O : Nat} {xs : List Nat} (h : Nums w (.slice A n c) xs) (hg : w.grownBy w' (some O)) (hne : 0 < xs.length → ∀ g o, A = some ⟨g, o, none⟩ → g ≠ O) : Nums w' (.slice A n c) xs := by
  rcases Nat.eq_zero_or_pos xs.length with h0 | h0
  · obtain ⟨A', c', e, _⟩ := h
    exact ⟨A', c', e, fun hh => by omega⟩
  · refine h.grown hg fun g o k c' e hh => ?_
    cases e
    exact hne h0 g o rfl (by simpa using hh)
set_option maxHeartbeats 8000000 in
set_option maxRecDepth 100000 in
theorem chaseIn_any (n : Nat) (v : Value) (l : List Ed) (w : World) (h : Edges w v l) (hl : l.length ≤ 1048576) (hg : P2.Good (n : Int) l) :
    Calls Tryd.prog 38 #[.agg #[.int .i64 (n : Int), v]] w fun e w' => ∃ cv tv mv xv us us', e = .returned (.agg #[cv, tv, mv, xv]) ∧ ChaseR w' (one l n) l (mvK l n n) cv tv mv us ∧
      (∃ A c, xv = .slice A (gridG n n (tms (one l n))).length c) ∧ OwnG w' w.heap.size xv us' (gridG n n (tms (one l n))) ∧ Below w.heap.size w w' := by
  obtain ⟨A, c, rfl, -⟩ := h.form
  obtain ⟨i0, hi, hz0, hz1, hz2⟩ := info_parts infoU
  obtain ⟨i1, hi1, hy0, hy1, hy2⟩ := info_parts infoRow
  have H := Lib.hid h
  have hn : n ≤ 8 := by have := hg.2.1; omega
  have b0 : Below w.heap.size w ((w.alloc (.cells #[.int .i64 (n : Int), .slice A l.length c] 29)).alloc (.cells #[.slice none 0 0, .slice none 0 0, .slice none 0 0, .slice none 0 0] 63)) := ((Below.refl _ _).alloc (Nat.le_refl _) _).alloc (by simp) _
  have g0 := (Blk.new w 29 #[.int .i64 (n : Int), .slice A l.length c]).alloc (.cells #[.slice none 0 0, .slice none 0 0, .slice none 0 0, .slice none 0 0] 63)
  have r0 := Blk.new (w.alloc (.cells #[.int .i64 (n : Int), .slice A l.length c] 29)) 63 #[.slice none 0 0, .slice none 0 0, .slice none 0 0, .slice none 0 0]
  rw [World.size_alloc] at r0
  obtain ⟨p0, p1, -, -⟩ := g0.two
  have HGD := Lib.hid hg
  clear h hg
  go_enter Tryd.func38, Tryd.ntmps38
  go_wp2_with fail
  refine (closedBits_any n (.slice A l.length c) l _ (H.out.below b0) hl HGD.out hn).mono ?_
  rintro e w2 ⟨A3, c3, rfl, i3, b3⟩
  have hcl := clos_len l n
  rw [hcl] at *
  have e2 := btrans b0 b3
  have HCL := Lib.hid i3
  have HR2 := Lib.hid (r0.below b3 r0.lt)
  have HE2 := Lib.hid e2
  have hrl := (r0.below b3 r0.lt).lt
  have HBS := Lib.hid (Blk.new w2 63 #[.slice A3 n c3, .slice none 0 0, .slice none 0 0, .slice none 0 0])
  have HB2 := Lib.hid ((Below.refl w2.heap.size w2).alloc (Nat.le_refl _) (.cells #[.slice A3 n c3, .slice none 0 0, .slice none 0 0, .slice none 0 0] 63))
  obtain ⟨q0, q1, q2, q3⟩ := blk4 HBS.out
  clear b0 b3 e2 i3 g0 r0 p0 p1 hcl
  go_wp2_with fail
  clear q0 q1 q2 q3
  go_loopg [12] n (fun g iv wr => ∃ (k : Nat) (tv mv : Value) (us : List Value), k + g = n ∧ iv = .int .i64 (k : Int) ∧ Blk wr w2.heap.size 63 #[.slice A3 n c3, tv, mv, .slice none 0 0] ∧ wr.ownsRow w2.heap.size 49 1 tv k (cellsU (pwK k)) ∧ OwnG wr w2.heap.size mv us (mvK l n k) ∧ Below w2.heap.size w2 wr)
  case atStart => exact ⟨0, _, _, [], by omega, rfl, HBS.out, World.ownsRow_nil _ _ _ _, OwnG.nil _ _, HB2.out⟩
  case round =>
    clear HBS HB2
    obtain ⟨k, tv, mv, us, hkg, rfl, hbs, htv, hG, hB⟩ := hrel
    have hsz := hB.size
    obtain ⟨p0, p1, p2, p3⟩ := blk4 hbs
    cases gk with
    | zero =>
      obtain rfl : k = n := by omega
      obtain ⟨At, ct, rfl⟩ := own_form htv
      obtain ⟨Am, cm, rfl⟩ := own_form hG.1
      have hCR : ChaseR wr (one l k) l (mvK l k k) (.slice A3 k c3) (.slice At k ct) (.slice Am (mvK l k k).length cm) us :=
        { good := HGD.out, ball := rfl, moves := moves_one l k, small := by show k ≤ 200; omega, short := mvK_short hn, some := fun h => h
          closed := by
            have h_ := HCL.out.below hB
            rw [clos_len] at h_
            show Reads wr 1 _ (clos l k).length _
            rw [clos_len]; exact h_
          taken := by rw [← pwK_all]; exact own_nums htv (pwK_len k)
          lists := gridl.readsG_of_own hG }
      have HF := Lib.hid (findTimes_any (one l k) l (mvK l k k) _ _ _ (.slice none 0 0) us wr hCR)
      have HCR := Lib.hid hCR
      have HBS := Lib.hid hbs
      have HTV := Lib.hid htv
      have HG := Lib.hid hG
      have HB := Lib.hid hB
      clear hbs htv hG hB hCR
      go_wp2_with fail
      refine HF.out.mono ?_
      rintro e w3 ⟨A5, c5, us5, rfl, o5, b5⟩
      have hb3 := HBS.out.below b5 HBS.out.lt
      obtain ⟨k0, k1, k2, k3⟩ := blk4 hb3
      have z3 := hb3.frozen 3
      have hk3 := gset1 w3 w2.heap.size 3 (.slice A5 (gridG (one l k).P (one l k).n (tms (one l k))).length c5)
      have HB4 : Hid (Blk (w3.setCell ⟨w2.heap.size, 3, none⟩ (.slice A5 (gridG (one l k).P (one l k).n (tms (one l k))).length c5)) w2.heap.size 63 #[.slice A3 k c3, .slice At k ct, .slice Am (mvK l k k).length cm, .slice A5 (gridG (one l k).P (one l k).n (tms (one l k))).length c5]) := by
        have h_ := hb3.set_ 3 (.slice A5 (gridG (one l k).P (one l k).n (tms (one l k))).length c5)
        show Blk _ _ _ _
        simpa using h_
      obtain ⟨j0, j1, j2, j3⟩ := blk4 HB4.out
      have hr4 := ((HR2.out.below HB.out HR2.out.lt).below b5 (by have := HB.out.size; omega)).far (p := ⟨w2.heap.size, 3, none⟩) (by show w.heap.size + 1 ≠ w2.heap.size; omega) (.slice A5 (gridG (one l k).P (one l k).n (tms (one l k))).length c5)
      obtain ⟨r0, r1, r2, r3⟩ := blk4 hr4
      have y0 := hr4.frozen 0
      have y1 := hr4.frozen 1
      have y2 := hr4.frozen 2
      have y3 := hr4.frozen 3
      have hE3 : Below w.heap.size w w3 := btrans (HE2.out.trans (HB.out.mono HE2.out.size)) b5
      have hcl3 : Nums w3 (.slice A3 k c3) (clos l k) := HCR.out.closed.below b5
      have htv3 := own_below HTV.out b5
      have hG3 := HG.out.below b5
      have hcl4 := nums_grown hcl3 hk3 (nums_ne hcl3 hb3)
      have htv4 := htv3.kept hk3 (.inr (own_ne htv3 hb3 (by decide)))
      have hG4 := OwnG.kept_c hG3 hb3 (by decide) (by decide) hk3
      have ho4 := OwnG.kept_c o5 hb3 (by decide) (by decide) hk3
      have hE4 : Below w.heap.size w (w3.setCell ⟨w2.heap.size, 3, none⟩ (.slice A5 (gridG (one l k).P (one l k).n (tms (one l k))).length c5)) := hE3.setCell HE2.out.size _
      have FIN : Hid (∀ w4, Nums w4 (.slice A3 k c3) (clos l k) → w4.ownsRow w2.heap.size 49 1 (.slice At k ct) k (cellsU (pwK k)) → OwnG w4 w2.heap.size (.slice Am (mvK l k k).length cm) us (mvK l k k) → OwnG w4 wr.heap.size (.slice A5 (gridG (one l k).P (one l k).n (tms (one l k))).length c5) us5 (gridG (one l k).P (one l k).n (tms (one l k))) →
          Blk w4 (w.heap.size + 1) 63 #[.slice none 0 0, .slice none 0 0, .slice none 0 0, .slice none 0 0] → Below w.heap.size w w4 →
          ∃ w5, w5 = ((((w4.setCell ⟨w.heap.size + 1, 0, none⟩ (.slice A3 k c3)).setCell ⟨w.heap.size + 1, 1, none⟩ (.slice At k ct)).setCell ⟨w.heap.size + 1, 2, none⟩ (.slice Am (mvK l k k).length cm)).setCell ⟨w.heap.size + 1, 3, none⟩ (.slice A5 (gridG (one l k).P (one l k).n (tms (one l k))).length c5)) ∧
            Blk w5 (w.heap.size + 1) 63 #[.slice A3 k c3, .slice At k ct, .slice Am (mvK l k k).length cm, (.slice A5 (gridG (one l k).P (one l k).n (tms (one l k))).length c5)] ∧ ChaseR w5 (one l k) l (mvK l k k) (.slice A3 k c3) (.slice At k ct) (.slice Am (mvK l k k).length cm) us ∧ OwnG w5 wr.heap.size (.slice A5 (gridG (one l k).P (one l k).n (tms (one l k))).length c5) us5 (gridG (one l k).P (one l k).n (tms (one l k))) ∧ Below w.heap.size w w5) := by
        intro w4 f1 f2 f3 f4 f5 f6
        have hk5 : w4.grownBy ((((w4.setCell ⟨w.heap.size + 1, 0, none⟩ (.slice A3 k c3)).setCell ⟨w.heap.size + 1, 1, none⟩ (.slice At k ct)).setCell ⟨w.heap.size + 1, 2, none⟩ (.slice Am (mvK l k k).length cm)).setCell ⟨w.heap.size + 1, 3, none⟩ (.slice A5 (gridG (one l k).P (one l k).n (tms (one l k))).length c5)) (some (w.heap.size + 1)) := gset (gset (gset (gset1 w4 _ 0 _) 1 _) 2 _) 3 _
        have n5 := nums_grown f1 hk5 (nums_ne f1 f5)
        refine ⟨_, rfl, ?_, { HCR.out with closed := n5, taken := ?_, lists := ?_ }, OwnG.kept_c f4 f5 (by decide) (by decide) hk5, ?_⟩
        · have h_ := (((f5.set_ 0 (.slice A3 k c3)).set_ 1 (.slice At k ct)).set_ 2 (.slice Am (mvK l k k).length cm)).set_ 3 (.slice A5 (gridG (one l k).P (one l k).n (tms (one l k))).length c5)
          simpa using h_
        · rw [← pwK_all]; exact own_nums (f2.kept hk5 (.inr (own_ne f2 f5 (by decide)))) (pwK_len k)
        · exact gridl.readsG_of_own (OwnG.kept_c f3 f5 (by decide) (by decide) hk5)
        · exact (((f6.setCell (by simp) _).setCell (by simp) _).setCell (by simp) _).setCell (by simp) _
      have FN := Lib.hid (FIN.out _ hcl4 htv4 hG4 ho4 hr4 hE4)
      have hz2 := HE2.out.size
      clear FIN hcl4 htv4 hG4 ho4 hE4 hcl3 htv3 hG3 hE3 o5 b5 hk3 hb3
      go_wp2_with fail
      obtain ⟨w5, e5, hb5, hc5, ho5, hE5⟩ := FN.out
      rw [← e5]
      obtain ⟨q0, q1, q2, q3⟩ := blk4 hb5
      refine bodyPost_ret (v := .agg #[.slice A3 k c3, .slice At k ct, .slice Am (mvK l k k).length cm, (.slice A5 (gridG (one l k).P (one l k).n (tms (one l k))).length c5)]) (by simp [results, Tryd.results38, go_sem, q0, q1, q2, q3]) rfl ⟨_, _, _, _, us, us5, rfl, hc5, ⟨_, _, rfl⟩, ho5.base ?_, hE5⟩
      have h8 := HB.out.size
      omega
    | succ g2 =>
      have hlt : k < n := by omega
      have hlt' : (k : Int) < (n : Int) := by omega
      have hk8 : k ≤ 8 := by omega
      obtain ⟨A', c', e', hcc⟩ := HCL.out.form
      cases e'
      obtain ⟨gc, oc, rfl, c0⟩ := hcc k _ (clos_at hlt)
      have x0 := nearv.cell_keep c0 hB
      have HND := Lib.hid (fun (W : World) => nodes_any (cloB l k) W (by have := cloB_lt' HGD.out k (by omega); omega))
      rw [clo_nodes HGD.out hlt hn] at HND
      have HMS := Lib.hid (mvK_succ l n k)
      have HPS := Lib.hid (pwK_succ k)
      have hw := wrap_pow (m := k) hk8
      have HBS := Lib.hid hbs
      have HTV := Lib.hid htv
      have HG := Lib.hid hG
      have HB := Lib.hid hB
      have HLL := Lib.hid (mvK_len l n k)
      clear hbs htv hG hB hcc c0
      generalize 2 ^ k = z at *
      generalize cloB l k = cb at *
      generalize ballL l n k = bl at *
      have n1 := (HBS.out.alloc (.cells #[.int .u64 (z : Int)] 49)).cell 1
      have N1 : Hid (∀ j u, [Value.int .u64 (z : Int)][j]? = some u → (wr.alloc (.cells #[.int .u64 (z : Int)] 49)).drew.cell? ((⟨wr.heap.size, 0, none⟩ : Addr).add j) = some u) := cell_one_new wr (.int .u64 (z : Int)) 49
      have BA1 : Hid (Blk (wr.alloc (.cells #[.int .u64 (z : Int)] 49)).drew w2.heap.size 63 #[.slice (some ⟨gc, oc, none⟩) n c3, tv, mv, .slice none 0 0]) := HBS.out.alloc _
      have F1 : Hid ((wr.alloc (.cells #[.int .u64 (z : Int)] 49)).drew.ownsRow w2.heap.size 49 1 tv k (cellsU (pwK k))) := HTV.out.alloc _
      go_wp2_with fail
      refine wp_region_held_drew (S := (fun w' : World => w'.cell? ⟨w2.heap.size, 1, none⟩ = some tv ∨ True)) (by kernel_rfl) (by (try dsimp only); simp [*]) (fun hHeld => ?_)
      change wpAnyH _ _ _ _ _ _ #[false, false, false, false, false, false, false, false] _ _
      refine wpAnyH_take (i := 0) (oi := ⟨some 17, _, _, _, _, _⟩) (v := ?_) rfl (by kernel_rfl) (by kernel_rfl) (by kernel_rfl) (fun _ _ _ h => h) (Or.inl ⟨by rfl, ?_⟩) (by assumption) ?_
      rotate_left
      · (intro w hSw; (try dsimp only at hSw); go_simp; (try (with_reducible rfl)))
      try simp only [Act.put, List.setIfInBounds_toArray, List.set_cons_zero, List.set_cons_succ]
      refine wpAnyH_take (i := 2) (oi := ⟨some 19, _, _, _, _, _⟩) (v := ?_) rfl (by kernel_rfl) (by kernel_rfl) (by kernel_rfl) (fun _ _ _ h => h) (Or.inl ⟨by rfl, ?_⟩) (by assumption) ?_
      rotate_left
      · (intro w hSw; (try dsimp only at hSw); go_simp; (try (with_reducible rfl)))
      try simp only [Act.put, List.setIfInBounds_toArray, List.set_cons_zero, List.set_cons_succ]
      refine wpAnyH_take (i := 3) (oi := ⟨some 20, _, _, _, _, _⟩) (v := ?_) rfl (by kernel_rfl) (by kernel_rfl) (by kernel_rfl) (fun _ _ _ h => h) (Or.inl ⟨by rfl, ?_⟩) (by assumption) ?_
      rotate_left
      · (intro w hSw; (try dsimp only at hSw); go_simp; (try (with_reducible rfl)))
      try simp only [Act.put, List.setIfInBounds_toArray, List.set_cons_zero, List.set_cons_succ]
      refine wpAnyH_ready (rs := [1, 4]) (by kernel_rfl) (by simp) ?_
      refine AllReadyH.cons (o := ⟨some 18, _, _, _, _, _⟩) rfl (fun K hK => ?_) (AllReadyH.cons (o := ⟨some 21, _, _, _, _, _⟩) rfl (fun K hK => ?_) AllReadyH.nil)
      focus
        go_simp
        refine hK.out _ _ (Or.inr trivial) (fun hHeld => ?_)
        clear hK K
        refine wpAnyH_ready (rs := [4]) (by kernel_rfl) (by simp) ?_
        refine AllReadyH.cons rfl (fun K hK => ?_) AllReadyH.nil
        go_simp
        refine hK.out _ _ (Or.inr trivial) (fun hHeld => ?_)
        clear hK K
        try simp only [List.setIfInBounds_toArray, List.set_cons_zero, List.set_cons_succ]
      rotate_left
      focus
        go_simp
        refine hK.out _ _ (Or.inr trivial) (fun hHeld => ?_)
        clear hK K
        refine wpAnyH_ready (rs := [1]) (by kernel_rfl) (by simp) ?_
        refine AllReadyH.cons rfl (fun K hK => ?_) AllReadyH.nil
        go_simp
        refine hK.out _ _ (Or.inr trivial) (fun hHeld => ?_)
        clear hK K
        try simp only [List.setIfInBounds_toArray, List.set_cons_zero, List.set_cons_succ]
      all_goals
        refine wpAnyH_ready (rs := [5]) (by kernel_rfl) (by simp) ?_
        refine AllReadyH.cons rfl (fun K hK => ?_) AllReadyH.nil
        (refine step_append_lies _ rfl (.tmp 18) (.tmp 21) 61 rfl w2.heap.size 49 i0 (.int .u64 0) 1 8 Tryd.underlying61 hi hz0 hz1 hz2 rfl (by decide) tv k (cellsU (pwK k)) rfl F1.out ⟨wr.heap.size, 0, none⟩ 1 1 [.int .u64 (z : Int)] rfl rfl N1.out (fun x hx => by simp at hx; subst hx; rfl) (by decide) (by unfold maxLen; omega) (by omega) (by simp; omega) (wr.heap.size + 1) (by simp) ?_; intro g5 cap5 w5 hown5 hgrow5 lies5 lt5; have hb5 := BA1.out.grown hgrow5 (fun e => own_ne HTV.out HBS.out (by decide) e.symm); obtain ⟨k0, k1, k2, k3⟩ := blk4 hb5; have z1 := hb5.frozen 1)
        refine hK.out _ _ (Or.inr trivial) (fun hHeld => ?_)
        clear hK K
        try simp only [Act.put, List.setIfInBounds_toArray, List.set_cons_zero, List.set_cons_succ]
        refine wpAnyH_take (i := 6) (oi := ⟨some 23, _, _, _, _, _⟩) (v := ?_) rfl (by kernel_rfl) (by kernel_rfl) (by kernel_rfl) (fun _ _ _ h => h) (Or.inl ⟨by rfl, ?_⟩) (by assumption) ?_
        rotate_left
        · (intro w hSw; (try dsimp only at hSw); go_simp; (try (with_reducible rfl)))
        try simp only [Act.put, List.setIfInBounds_toArray, List.set_cons_zero, List.set_cons_succ]
        refine wpAnyH_ready (rs := [7]) (by kernel_rfl) (by simp) ?_
        refine AllReadyH.cons rfl (fun K hK => ?_) AllReadyH.nil
        go_simp
        refine hK.out _ _ (Or.inr trivial) (fun hHeld => ?_)
        clear hK K
        refine wpAnyH_done (by kernel_rfl) ?_ _
        have hk5 := gset1 w5 w2.heap.size 1 (.slice (some ⟨g5, 0, none⟩) (k + 1) cap5)
        have HBS6 : Hid (Blk (w5.setCell ⟨w2.heap.size, 1, none⟩ (.slice (some ⟨g5, 0, none⟩) (k + 1) cap5)) w2.heap.size 63 #[.slice (some ⟨gc, oc, none⟩) n c3, .slice (some ⟨g5, 0, none⟩) (k + 1) cap5, mv, .slice none 0 0]) := by
          have h_ := hb5.set_ 1 (.slice (some ⟨g5, 0, none⟩) (k + 1) cap5)
          show Blk _ _ _ _
          simpa using h_
        have HTV6 : Hid ((w5.setCell ⟨w2.heap.size, 1, none⟩ (.slice (some ⟨g5, 0, none⟩) (k + 1) cap5)).ownsRow w2.heap.size 49 1 (.slice (some ⟨g5, 0, none⟩) (k + 1) cap5) (k + 1) (cellsU (pwK (k + 1)))) := by
          show World.ownsRow _ _ _ _ _ _ _
          rw [HPS.out, cellsU_app]
          exact hown5.kept hk5 (.inr (own_ne hown5 hb5 (by decide)))
        have HG6 : Hid (OwnG (w5.setCell ⟨w2.heap.size, 1, none⟩ (.slice (some ⟨g5, 0, none⟩) (k + 1) cap5)) w2.heap.size mv us (mvK l n k)) :=
          OwnG.kept_c (OwnG.kept_u (HG.out.below ((Below.refl wr.heap.size wr).alloc (Nat.le_refl _) (.cells #[.int .u64 (z : Int)] 49)).drew) F1.out hgrow5) hb5 (by decide) (by decide) hk5
        have HB6 : Hid (Below w2.heap.size w2 (w5.setCell ⟨w2.heap.size, 1, none⟩ (.slice (some ⟨g5, 0, none⟩) (k + 1) cap5))) :=
          (((HB.out.alloc hsz (.cells #[.int .u64 (z : Int)] 49)).drew.grown hgrow5 (by simp; omega) (fun j e => (HTV.out.lt j e).1)).setCell (p := ⟨w2.heap.size, 1, none⟩) (Nat.le_refl _) (.slice (some ⟨g5, 0, none⟩) (k + 1) cap5))
        clear hk5 hown5 hgrow5 lies5 hb5 k0 k1 k2 k3 z1 hHeld
        go_wp2_with fail
        generalize w5.setCell ⟨w2.heap.size, 1, none⟩ (.slice (some ⟨g5, 0, none⟩) (k + 1) cap5) = w6 at *
        obtain ⟨m0, m1, m2, m3⟩ := blk4 HBS6.out
        have hs6 := HB6.out.size
        have hml : (mvK l n k).length ≤ 8 := by have := HLL.out; omega
        refine wp_region_held_drew (S := (fun w' : World => w'.cell? ⟨w2.heap.size, 2, none⟩ = some mv ∨ True)) (by kernel_rfl) (by (try dsimp only); simp [*]) (fun hHeld => ?_)
        change wpAnyH _ _ _ _ _ _ #[false, false, false, false, false, false, false, false] _ _
        refine wpAnyH_take (i := 0) (oi := ⟨some 24, _, _, _, _, _⟩) (v := ?_) rfl (by kernel_rfl) (by kernel_rfl) (by kernel_rfl) (fun _ _ _ h => h) (Or.inl ⟨by rfl, ?_⟩) (by assumption) ?_
        rotate_left
        · (intro w hSw; (try dsimp only at hSw); go_simp; (try (with_reducible rfl)))
        try simp only [Act.put, List.setIfInBounds_toArray, List.set_cons_zero, List.set_cons_succ]
        refine wpAnyH_take (i := 2) (oi := ⟨some 26, _, _, _, _, _⟩) (v := ?_) rfl (by kernel_rfl) (by kernel_rfl) (by kernel_rfl) (fun _ _ _ h => h) (Or.inl ⟨by rfl, ?_⟩) (by assumption) ?_
        rotate_left
        · (intro w hSw; (try dsimp only at hSw); go_simp; (try (with_reducible rfl)))
        try simp only [Act.put, List.setIfInBounds_toArray, List.set_cons_zero, List.set_cons_succ]
        refine wpAnyH_ready (rs := [1, 3]) (by kernel_rfl) (by simp) ?_
        refine AllReadyH.cons (o := ⟨some 25, _, _, _, _, _⟩) rfl (fun K hK => ?_) (AllReadyH.cons (o := ⟨some 27, _, _, _, _, _⟩) rfl (fun K hK => ?_) AllReadyH.nil)
        focus
          go_simp
          refine hK.out _ _ (Or.inr trivial) (fun hHeld => ?_)
          clear hK K
          refine wpAnyH_ready (rs := [3]) (by kernel_rfl) (by simp) ?_
          refine AllReadyH.cons (o := ⟨some 27, _, _, _, _, _⟩) rfl (fun K hK => ?_) AllReadyH.nil
          go_simp
          go_at_call 59
          refine (HND.out w6.drew).mono ?_
          rintro e w7 ⟨A7, c7, rfl, o7, b7⟩
          have d7 : Below w6.heap.size w6 w7 := (Below.refl _ _).drew.trans b7
          have hb7 := HBS6.out.below d7 HBS6.out.lt
          obtain ⟨k0, k1, k2, k3⟩ := blk4 hb7
          have na := (hb7.alloc (.cells #[.slice A7 bl.length c7] 26)).cell 2
          go_wp2_with fail
          refine hK.out _ _ (Or.inr trivial) (fun hHeld => ?_)
          clear hK K
          refine wpAnyH_ready (rs := [4]) (by kernel_rfl) (by simp) ?_
          refine AllReadyH.cons rfl (fun K hK => ?_) AllReadyH.nil
          go_simp
          refine hK.out _ _ (Or.inr trivial) (fun hHeld => ?_)
          clear hK K
          try simp only [List.setIfInBounds_toArray, List.set_cons_zero, List.set_cons_succ]
        rotate_left
        focus
          go_simp
          go_at_call 59
          refine (HND.out w6.drew).mono ?_
          rintro e w7 ⟨A7, c7, rfl, o7, b7⟩
          have d7 : Below w6.heap.size w6 w7 := (Below.refl _ _).drew.trans b7
          have hb7 := HBS6.out.below d7 HBS6.out.lt
          obtain ⟨k0, k1, k2, k3⟩ := blk4 hb7
          have na := (hb7.alloc (.cells #[.slice A7 bl.length c7] 26)).cell 2
          go_wp2_with fail
          refine hK.out _ _ (Or.inr trivial) (fun hHeld => ?_)
          clear hK K
          refine wpAnyH_ready (rs := [1, 4]) (by kernel_rfl) (by simp) ?_
          refine AllReadyH.cons (o := ⟨some 25, _, _, _, _, _⟩) rfl (fun K hK => ?_) (AllReadyH.cons (o := ⟨some 28, _, _, _, _, _⟩) rfl (fun K hK => ?_) AllReadyH.nil)
          focus
            go_simp
            refine hK.out _ _ (Or.inr trivial) (fun hHeld => ?_)
            clear hK K
            refine wpAnyH_ready (rs := [4]) (by kernel_rfl) (by simp) ?_
            refine AllReadyH.cons rfl (fun K hK => ?_) AllReadyH.nil
            go_simp
            refine hK.out _ _ (Or.inr trivial) (fun hHeld => ?_)
            clear hK K
            try simp only [List.setIfInBounds_toArray, List.set_cons_zero, List.set_cons_succ]
          rotate_left
          focus
            go_simp
            refine hK.out _ _ (Or.inr trivial) (fun hHeld => ?_)
            clear hK K
            refine wpAnyH_ready (rs := [1]) (by kernel_rfl) (by simp) ?_
            refine AllReadyH.cons rfl (fun K hK => ?_) AllReadyH.nil
            go_simp
            refine hK.out _ _ (Or.inr trivial) (fun hHeld => ?_)
            clear hK K
            try simp only [List.setIfInBounds_toArray, List.set_cons_zero, List.set_cons_succ]
        all_goals
          have FG := Lib.hid ((HG6.out.below d7).1.alloc (.cells #[.slice A7 bl.length c7] 26))
          have hs7 := d7.size
          refine wpAnyH_ready (rs := [5]) (by kernel_rfl) (by simp) ?_
          refine AllReadyH.cons rfl (fun K hK => ?_) AllReadyH.nil
          (refine step_append_lies _ rfl (.tmp 25) (.tmp 28) 57 rfl w2.heap.size 26 i1 (.slice none 0 0) 1 24 Tryd.underlying57 hi1 hy0 hy1 hy2 rfl (by decide) mv (mvK l n k).length us rfl FG.out ⟨w7.heap.size, 0, none⟩ 1 1 [.slice A7 bl.length c7] rfl rfl (cell_one_new _ _ _) (fun x hx => by simp at hx; subst hx; rfl) (by decide) (by unfold maxLen; omega) (by omega) (by simp; omega) (w7.heap.size + 1) (by simp) ?_; intro g8 cap8 w8 hown8 hgrow8 lies8 lt8; have hb8 := (hb7.alloc (.cells #[.slice A7 bl.length c7] 26)).grown hgrow8 (fun e => own_ne (HG6.out.below d7).1 hb7 (by decide) e.symm); obtain ⟨j0, j1, j2, j3⟩ := blk4 hb8; have z2 := hb8.frozen 2)
          refine hK.out _ _ (Or.inr trivial) (fun hHeld => ?_)
          clear hK K
          try simp only [Act.put, List.setIfInBounds_toArray, List.set_cons_zero, List.set_cons_succ]
          refine wpAnyH_take (i := 6) (oi := ⟨some 30, _, _, _, _, _⟩) (v := ?_) rfl (by kernel_rfl) (by kernel_rfl) (by kernel_rfl) (fun _ _ _ h => h) (Or.inl ⟨by rfl, ?_⟩) (by assumption) ?_
          rotate_left
          · (intro w hSw; (try dsimp only at hSw); go_simp; (try (with_reducible rfl)))
          try simp only [Act.put, List.setIfInBounds_toArray, List.set_cons_zero, List.set_cons_succ]
          refine wpAnyH_ready (rs := [7]) (by kernel_rfl) (by simp) ?_
          refine AllReadyH.cons rfl (fun K hK => ?_) AllReadyH.nil
          go_simp
          refine hK.out _ _ (Or.inr trivial) (fun hHeld => ?_)
          clear hK K
          refine wpAnyH_done (by kernel_rfl) ?_ _
          have hk8 := gset1 w8 w2.heap.size 2 (.slice (some ⟨g8, 0, none⟩) ((mvK l n k).length + 1) cap8)
          have HBS9 : Hid (Blk (w8.setCell ⟨w2.heap.size, 2, none⟩ (.slice (some ⟨g8, 0, none⟩) ((mvK l n k).length + 1) cap8)) w2.heap.size 63 #[.slice (some ⟨gc, oc, none⟩) n c3, .slice (some ⟨g5, 0, none⟩) (k + 1) cap5, .slice (some ⟨g8, 0, none⟩) ((mvK l n k).length + 1) cap8, .slice none 0 0]) := by
            have h_ := hb8.set_ 2 (.slice (some ⟨g8, 0, none⟩) ((mvK l n k).length + 1) cap8)
            show Blk _ _ _ _
            simpa using h_
          have HTV9 := Lib.hid ((own_kept ((own_below HTV6.out d7).alloc (.cells #[.slice A7 bl.length c7] 26)) FG.out (by decide) hgrow8).kept hk8 (.inr (own_ne (own_kept ((own_below HTV6.out d7).alloc (.cells #[.slice A7 bl.length c7] 26)) FG.out (by decide) hgrow8) hb8 (by decide))))
          have HG8 := OwnG.push (m := 1) HG6.out d7 hs6 o7 hown8 rfl hgrow8
          rw [← HMS.out] at HG8
          have HG9 := Lib.hid (OwnG.kept_c HG8 hb8 (by decide) (by decide) hk8)
          have HB9 := Lib.hid ((((btrans HB6.out d7).alloc (by omega) (.cells #[.slice A7 bl.length c7] 26)).grown hgrow8 (by simp; omega) (fun j e => (HG6.out.1.lt j e).1)).setCell (p := ⟨w2.heap.size, 2, none⟩) (Nat.le_refl _) (.slice (some ⟨g8, 0, none⟩) ((mvK l n k).length + 1) cap8))
          clear hk8 hown8 hgrow8 lies8 hb8 j0 j1 j2 j3 z2 hHeld k0 k1 k2 k3 na hb7 o7 b7 d7 HG8
          go_wp2_with fail
          go_roundg g2
          case measure => omega
          case rel => exact ⟨k + 1, _, _, us ++ [_], by omega, by go_num, HBS9.out, HTV9.out, HG9.out, HB9.out⟩
end Go.Proofs.YtgbdgenlmmofeaaDoor.times
