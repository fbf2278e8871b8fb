/- The contract of slices.Clone over words. -/
import Derived.Handy
import Derived.Test.YtdhbaegkogklgaaDoorK05
import Derived.Test.YtdhbaegkogklgaaDoorK03
import Derived.Test.YtdhbaegkogklgaaDoorK04
import Derived.Deep.DeepCutAuto
import Derived.Laws.CopyOwn
import Derived.Laws.Cover3
import Derived.StillTailTactics
import Derived.Test.YtdhbaegkogklgaaDoorK16
import Derived.Deep.RegionHeld3
import Derived.Deep.QuietTactic
namespace Go.Proofs.YtdhbaegkogklgaaDoor.ups
open Go.RowKit P2 words edges ints good adjs fns sets rets covs bitsI apps
set_option linter.unusedVariables false

theorem oneC (l : List Nat) : ∀ x ∈ cellsU l, x.oneCell' = true := fun x hx => by
  obtain ⟨a, _, rfl⟩ := List.mem_map.1 hx
  rfl
theorem run_eql_nilC (w : World) (a : Option Addr) (n c : Nat) : (binOp .eql 63 (.slice a n c) (.slice none 0 0)).run Tryd.prog w = .ok (.bool a.isNone) w := by
  simp only [binOp]
  simp [run_equal_slice_nil w 63 _ a n c Tryd.underlying63]
theorem ownU_newC (w : World) : (w.alloc (.cells #[] 70)).ownsRow w.heap.size 70 1 (.slice (some ⟨w.heap.size, 0, none⟩) 0 0) 0 [] := own_new0 w _ 1
set_option maxHeartbeats 1000000 in
set_option maxRecDepth 100000 in
theorem cloneC_any (u : Value) (xs : List Nat) (w : World) (hu : Nums w u xs) (hxl : xs.length ≤ 1048576) :
    Calls Tryd.prog 98 #[u] w fun e w' => ∃ A c, e = .returned (.slice A xs.length c) ∧ w'.ownsRow w.heap.size 70 1 (.slice A xs.length c) xs.length (cellsU xs) ∧ Below w.heap.size w w' := by
  obtain ⟨i0, hi, hz0, hz1, hz2⟩ := info_parts infoU
  obtain ⟨A2, c2, rfl, hx⟩ := hu
  cases A2 with
  | none =>
    have h0 : xs.length = 0 := by
      rcases Nat.eq_zero_or_pos xs.length with h | h
      · exact h
      · obtain ⟨g, o, e, _⟩ := hx h; cases e
    obtain rfl : xs = [] := List.eq_nil_of_length_eq_zero h0
    have hnil := run_eql_nilC w none 0 c2
    clear hx h0
    go_enter Tryd.func98, Tryd.ntmps98
    go_wp2_with fail
    go_ret
    exact ⟨none, 0, rfl, World.ownsRow_nil _ _ _ _, Below.refl _ _⟩
  | some ad =>
    have hr : Reads w 1 (.slice (some ad) xs.length c2) xs.length (cellsU xs) := ⟨_, _, rfl, hx⟩
    have HR : Hid (Reads (w.alloc (.cells #[] 70)) 1 (.slice (some ad) xs.length c2) xs.length (cellsU xs)) := hr.below ((Below.refl _ _).alloc (Nat.le_refl _) _)
    have HO := Lib.hid (ownU_newC w)
    have HB : Hid (Below w.heap.size w (w.alloc (.cells #[] 70))) := (Below.refl _ _).alloc (Nat.le_refl _) _
    have hcl : Hid ((cellsU xs).length = xs.length * 1) := by show _ = _; simp [cellsU]
    have hnil := run_eql_nilC w (some ad) xs.length c2
    clear hx hr
    go_enter Tryd.func98, Tryd.ntmps98
    go_wp2_with (at_builtin; refine wpList_append_any _ rfl (.tmp 5) (.tmp 6) 63 rfl w.heap.size 70 i0 (.int .u64 0) 1 8 Tryd.underlying63 hi hz0 hz1 hz2 rfl (by decide) _ _ _ rfl HO.out (.slice (some ad) xs.length c2) xs.length (cellsU xs) rfl HR.out hcl.out (oneC _) (by unfold maxLen; omega) (by omega) (by simp) ?_; intro v2 w4 o4 gr4)
    rw [Nat.zero_add, List.nil_append] at o4
    obtain ⟨A4, c4, rfl⟩ := own_form o4
    have HB4 := Lib.hid (HB.out.grown gr4 (by simp) (fun j e => (HO.out.lt j e).1))
    have HO4 := Lib.hid o4
    clear gr4 o4
    go_wp2_with fail
    go_ret
    exact ⟨A4, c4, by simp, HO4.out, HB4.out⟩
end Go.Proofs.YtdhbaegkogklgaaDoor.ups

/- Guards: the contracts of the program's watchIn, isAnswer and answers. -/
namespace Go.Proofs.YtdhbaegkogklgaaDoor.ups
open Go.RowKit P2 words edges ints good adjs fns sets rets covs bags bitsI func lists least
set_option linter.unusedVariables false

theorem blkW {w : World} {g : Nat} {t : TypeId} {a b c : Value} (h : Blk w g t #[a, b, c]) : w.cell? ⟨g, 0, none⟩ = some a ∧ w.cell? ⟨g, 1, none⟩ = some b ∧ w.cell? ⟨g, 2, none⟩ = some c := ⟨h.cell 0, h.cell 1, h.cell 2⟩
/-- the value of a game of guards -/
def watV (all : Bool) (vc vs : Value) : Value := .agg #[vc, .func (.func (ruleF all)) #[] #[], vs]
/-- a set of guards answers an attack -/
def ansB (l : List Ed) (all : Bool) (x a b : Nat) : Bool := b.testBit x && mvB l all a b
theorem fin_watch {w w4 : World} {R O n1 n2 : Nat} {vc f vs a b : Value} {xs1 xs2 : List Value} {B1 B2 : Nat} (hr : Blk w4 R 67 #[.slice none 0 0, .nilFunc, .slice none 0 0]) (ho : Blk w4 O 29 #[a, b]) (hOR : O ≠ R)
    (hc : w4.ownsRow B1 70 1 vc n1 xs1) (hs : w4.ownsRow B2 70 1 vs n2 xs2) (hB : Below w.heap.size w w4) (hR : w.heap.size ≤ R) :
    ∃ w5, w5 = ((w4.setCell ⟨R, 0, none⟩ vc).setCell ⟨R, 1, none⟩ f).setCell ⟨R, 2, none⟩ vs ∧ Blk w5 R 67 #[vc, f, vs] ∧ Blk w5 O 29 #[a, b] ∧ w5.ownsRow B1 70 1 vc n1 xs1 ∧ w5.ownsRow B2 70 1 vs n2 xs2 ∧ Below w.heap.size w w5 := by
  have k5 : w4.grownBy (((w4.setCell ⟨R, 0, none⟩ vc).setCell ⟨R, 1, none⟩ f).setCell ⟨R, 2, none⟩ vs) (some R) := gset (gset (gset (World.grownBy.refl w4 (some R)) 0 vc) 1 f) 2 vs
  have h1 := ((hr.set_ 0 vc).set_ 1 f).set_ 2 vs
  exact ⟨_, rfl, by simpa using h1, ho.grown k5 (fun e => hOR (by simpa using e)), hc.kept k5 (.inr (mids.own_ne hc hr (by decide))), hs.kept k5 (.inr (mids.own_ne hs hr (by decide))), ((hB.setCell (p := ⟨R, 0, none⟩) hR vc).setCell (p := ⟨R, 1, none⟩) hR f).setCell (p := ⟨R, 2, none⟩) hR vs⟩
set_option maxHeartbeats 4000000 in
set_option maxRecDepth 100000 in
theorem watchIn_any (n k : Nat) (all : Bool) (v : Value) (l : List Ed) (w : World) (h : Edges w v l) (hl : l.length ≤ 1048576) (hg : P2.Good (n : Int) l) (hn : n ≤ 8) (hk : k ≤ 8) :
    Calls Tryd.prog 45 #[.agg #[.int .i64 (n : Int), v], .int .i64 (k : Int), .bool all] w fun e w' => ∃ A3 c3 A4 c4, e = .returned (watV all (.slice A3 (clos l n).length c3) (.slice A4 (setsK n k).length c4)) ∧ Nums w' (.slice A3 (clos l n).length c3) (clos l n) ∧
      w'.ownsRow w.heap.size 70 1 (.slice A4 (setsK n k).length c4) (setsK n k).length (cellsU (setsK n k)) ∧ Below w.heap.size w w' := by
  obtain ⟨A, c, rfl, -⟩ := h.form
  have H := Lib.hid h
  have b0 : Below w.heap.size w ((w.alloc (.cells #[.int .i64 (n : Int), .slice A l.length c] 29)).alloc (.cells #[.slice none 0 0, .nilFunc, .slice none 0 0] 67)) := ((Below.refl _ _).alloc (Nat.le_refl _) _).alloc (by simp) _
  have g0 := (Blk.new w 29 #[.int .i64 (n : Int), .slice A l.length c]).alloc (.cells #[.slice none 0 0, .nilFunc, .slice none 0 0] 67)
  have r0 := Blk.new (w.alloc (.cells #[.int .i64 (n : Int), .slice A l.length c] 29)) 67 #[.slice none 0 0, .nilFunc, .slice none 0 0]
  rw [World.size_alloc] at r0
  obtain ⟨p0, p1, -, -⟩ := g0.two
  have HB0 := Lib.hid b0
  have HG0 := Lib.hid g0
  have HR0 := Lib.hid r0
  have HCB := Lib.hid (fun (W : World) (hW : Below w.heap.size w W) => closedBits_own n (.slice A l.length c) l W (H.out.below hW) hl hg hn)
  have HRU := Lib.hid (fun (W : World) => ruleOf_any all W)
  have HSE := Lib.hid (fun (W : World) => setsOf_own n k W hn hk)
  clear h b0 g0 r0 hg
  generalize hW0 : (w.alloc (.cells #[.int .i64 (n : Int), .slice A l.length c] 29)).alloc (.cells #[.slice none 0 0, .nilFunc, .slice none 0 0] 67) = W0 at *
  have HW0 := Lib.hid hW0
  clear hW0
  go_enter Tryd.func45, Tryd.ntmps45
  go_wp2_with fail
  rw [HW0.out]
  refine wp_region_held_drew (S := (fun w' : World => w'.cell? ⟨w.heap.size, 0, none⟩ = some (.int .i64 (n : Int)) ∧ w'.cell? ⟨w.heap.size, 1, none⟩ = some (.slice A l.length c))) (by kernel_rfl) (by (try dsimp only); simp [*]) (fun hHeld => ?_)
  change wpAnyH _ _ _ _ _ _ #[false, false, false, false, false, false, false, false, false, false] _ _
  refine wpAnyH_take (i := 0) (oi := ⟨some 7, _, _, _, _, _⟩) (v := ?_) rfl (by kernel_rfl) (by kernel_rfl) (by kernel_rfl) (fun _ _ _ h => h) (Or.inl ⟨by rfl, ?_⟩) (by assumption) ?_
  rotate_left
  · (intro w hSw; (try dsimp only at hSw); go_simp; (try (with_reducible rfl)))
  try simp only [Act.put, List.setIfInBounds_toArray, List.set_cons_zero, List.set_cons_succ]
  refine wpAnyH_take (i := 2) (oi := ⟨some 9, _, _, _, _, _⟩) (v := ?_) rfl (by kernel_rfl) (by kernel_rfl) (by kernel_rfl) (fun _ _ _ h => h) (Or.inl ⟨by rfl, ?_⟩) (by assumption) ?_
  rotate_left
  · (intro w hSw; (try dsimp only at hSw); go_simp; (try (with_reducible rfl)))
  try simp only [Act.put, List.setIfInBounds_toArray, List.set_cons_zero, List.set_cons_succ]
  refine wpAnyH_take (i := 4) (oi := ⟨some 11, _, _, _, _, _⟩) (v := ?_) rfl (by kernel_rfl) (by kernel_rfl) (by kernel_rfl) (fun _ _ _ h => h) (Or.inl ⟨by rfl, ?_⟩) (by assumption) ?_
  rotate_left
  · (intro w hSw; (try dsimp only at hSw); go_simp; (try (with_reducible rfl)))
  try simp only [Act.put, List.setIfInBounds_toArray, List.set_cons_zero, List.set_cons_succ]
  refine wpAnyH_take (i := 5) (oi := ⟨some 12, _, _, _, _, _⟩) (v := ?_) rfl (by kernel_rfl) (by kernel_rfl) (by kernel_rfl) (fun _ _ _ h => h) (Or.inl ⟨by rfl, ?_⟩) (by assumption) ?_
  rotate_left
  · (intro w hSw; (try dsimp only at hSw); go_simp; (try (with_reducible rfl)))
  try simp only [Act.put, List.setIfInBounds_toArray, List.set_cons_zero, List.set_cons_succ]
  refine wpAnyH_take (i := 6) (oi := ⟨some 13, _, _, _, _, _⟩) (v := ?_) rfl (by kernel_rfl) (by kernel_rfl) (by kernel_rfl) (fun _ _ _ h => h) (Or.inl ⟨by rfl, ?_⟩) (by assumption) ?_
  rotate_left
  · (intro w hSw; (try dsimp only at hSw); go_simp; (try (with_reducible rfl)))
  try simp only [Act.put, List.setIfInBounds_toArray, List.set_cons_zero, List.set_cons_succ]
  refine wpAnyH_ready (rs := [1]) (by kernel_rfl) (by simp) ?_
  refine AllReadyH.cons (o := ⟨some 8, _, _, _, _, _⟩) rfl (fun K hK => ?_) AllReadyH.nil
  go_simp
  (with_reducible refine (HCB.out _ HB0.out.drew).mono ?_); rintro e w3 ⟨A3, c3, rfl, o3, b3⟩; have d3 : Below W0.heap.size W0 w3 := btrans (Below.refl _ _).drew b3; have HE3 := Lib.hid (btrans HB0.out d3); have HG3 := Lib.hid (HG0.out.below d3 HG0.out.lt); have HR3 := Lib.hid (HR0.out.below d3 HR0.out.lt); obtain ⟨k0, k1, -, -⟩ := HG3.out.two
  go_wp2_with fail
  refine hK.out _ _ (by (try dsimp only); simp [*]) (fun hHeld => ?_)
  clear hK K
  try simp only [List.setIfInBounds_toArray, List.set_cons_zero, List.set_cons_succ]
  refine wpAnyH_ready (rs := [3]) (by kernel_rfl) (by simp) ?_
  refine AllReadyH.cons (o := ⟨some 10, _, _, _, _, _⟩) rfl (fun K hK => ?_) AllReadyH.nil
  go_simp
  (with_reducible refine (HRU.out w3).mono ?_); rintro e w4 ⟨rfl, rfl⟩
  go_wp2_with fail
  refine hK.out _ _ (by (try dsimp only); simp [*]) (fun hHeld => ?_)
  clear hK K
  try simp only [List.setIfInBounds_toArray, List.set_cons_zero, List.set_cons_succ]
  refine wpAnyH_ready (rs := [7]) (by kernel_rfl) (by simp) ?_
  refine AllReadyH.cons (o := ⟨some 14, _, _, _, _, _⟩) rfl (fun K hK => ?_) AllReadyH.nil
  go_simp
  (with_reducible refine (HSE.out w3).mono ?_); rintro e w4 ⟨A4, c4, rfl, o4, b4⟩; have HG4 := Lib.hid (HG3.out.below b4 HG3.out.lt); have hr4 := HR3.out.below b4 HR3.out.lt; obtain ⟨i0, i1, -, -⟩ := HG4.out.two; have hs3 := HE3.out.size; have hz3 := b3.size; have FN := Lib.hid (fin_watch (w := w) (f := .func (.func (ruleF all)) #[] #[]) hr4 HG4.out (by omega) (own_below o3 b4) (own_base (B' := w.heap.size) o4 hs3) (btrans HE3.out b4) (Nat.le_succ _)); obtain ⟨r0, r1, r2⟩ := blkW hr4; have y0 := hr4.frozen 0; have y1 := hr4.frozen 1; have y2 := hr4.frozen 2
  go_wp2_with fail
  refine hK.out _ _ (by (try dsimp only); simp [*]) (fun hHeld => ?_)
  clear hK K
  try simp only [List.setIfInBounds_toArray, List.set_cons_zero, List.set_cons_succ]
  refine wpAnyH_take (i := 8) (oi := ⟨some 15, _, _, _, _, _⟩) (v := ?_) rfl (by kernel_rfl) (by kernel_rfl) (by kernel_rfl) (fun _ _ _ h => h) (Or.inl ⟨by rfl, ?_⟩) (by assumption) ?_
  rotate_left
  · (intro w hSw; (try dsimp only at hSw); go_simp; (try (with_reducible rfl)))
  try simp only [Act.put, List.setIfInBounds_toArray, List.set_cons_zero, List.set_cons_succ]
  refine wpAnyH_ready (rs := [9]) (by kernel_rfl) (by simp) ?_
  refine AllReadyH.cons rfl (fun K hK => ?_) AllReadyH.nil
  go_simp
  refine hK.out _ _ (by obtain ⟨w5, e5, _, hg5, _⟩ := FN.out; rw [← e5]; exact ⟨hg5.cell 0, hg5.cell 1⟩) (fun hHeld => ?_)
  clear hK K
  refine wpAnyH_done (by kernel_rfl) ?_ _
  go_wp2_with fail
  obtain ⟨w5, e5, hb5, _, hc5, hs5, hB5⟩ := FN.out
  rw [← e5]
  obtain ⟨q0, q1, q2⟩ := blkW hb5
  have hlen := clos_len l n
  refine bodyPost_ret (v := .agg #[.slice A3 n c3, .func (.func (ruleF all)) #[] #[], .slice A4 (setsK n k).length c4]) (by simp [results, Tryd.results45, go_sem, q0, q1, q2]) rfl ⟨A3, c3, A4, c4, by unfold watV; rw [hlen], by rw [hlen]; have h_ := Reads.of_own hc5; unfold Nums; rw [hlen]; exact h_, hs5, hB5⟩
set_option maxHeartbeats 2000000 in
set_option maxRecDepth 100000 in
theorem isAnswer_any (n a b x : Nat) (all : Bool) (vc vs : Value) (l : List Ed) (w : World) (hE : Env w) (hc : Nums w vc (clos l n)) (hg : P2.Good (n : Int) l) (hn : n ≤ 8) (ha : a < 2 ^ n) (hb : b < 2 ^ n) (hx : x ≤ 8) :
    Calls Tryd.prog 127 #[watV all vc vs, .int .u64 (a : Int), .int .u64 (b : Int), .int .i64 (x : Int)] w fun e w' => e = .returned (.bool (ansB l all x a b)) ∧ Below w.heap.size w w' := by
  have hmv := rule_mv hg hn all
  have hent := hmv.enter
  have HB0 : Hid (Below w.heap.size w (w.alloc (.cells #[vc, .func (.func (ruleF all)) #[] #[], vs] 67))) := (Below.refl _ _).alloc (Nat.le_refl _) _
  have HG0 := Lib.hid (Blk.new w 67 #[vc, .func (.func (ruleF all)) #[] #[], vs])
  obtain ⟨p0, p1, p2⟩ := blkW HG0.out
  have HMV := Lib.hid (hmv.call _ vc a b (hc.below HB0.out) (hE.next HB0.out) ha hb)
  have hb8 := Nat.lt_of_lt_of_le hb (pow_le hn)
  have HH := Lib.hid (fun (W : World) => has_any b x W (by omega) hx)
  unfold watV
  clear hmv hc hg hE
  cases hbt : b.testBit x with
  | true =>
    have HV : Hid (ansB l all x a b = mvB l all a b) := by show _ = _; unfold ansB; rw [hbt]; rfl
    rw [hbt] at HH
    clear hbt
    generalize mvB l all a b = res at *
    generalize ruleF all = rf at *
    go_enter Tryd.func127, Tryd.ntmps127
    go_wp2_with fail
    refine (HH.out _).mono ?_
    rintro e w' ⟨rfl, rfl⟩
    go_wp2_with fail
    refine HMV.out.mono ?_
    rintro e w1 ⟨rfl, b1⟩
    go_wp2_with fail
    go_ret
    rw [HV.out]
    exact ⟨rfl, btrans HB0.out b1⟩
  | false =>
    have HV : Hid (ansB l all x a b = false) := by show _ = _; unfold ansB; rw [hbt]; rfl
    rw [hbt] at HH
    clear hbt
    go_enter Tryd.func127, Tryd.ntmps127
    go_wp2_with fail
    refine (HH.out _).mono ?_
    rintro e w' ⟨rfl, rfl⟩
    go_wp2_with fail
    go_ret
    rw [HV.out]
    exact ⟨rfl, HB0.out⟩
set_option maxHeartbeats 2000000 in
set_option maxRecDepth 100000 in
theorem answersClo_any (n a b x : Nat) (b1 b2 b3 : Nat) (all : Bool) (vc vs : Value) (l : List Ed) (w : World) (h1 : Blk w b1 67 #[vc, .func (.func (ruleF all)) #[] #[], vs]) (h2 : w.cell? ⟨b2, 0, none⟩ = some (.int .u64 (a : Int))) (h3 : w.cell? ⟨b3, 0, none⟩ = some (.int .i64 (x : Int))) (hE : Env w) (hc : Nums w vc (clos l n)) (hg : P2.Good (n : Int) l) (hn : n ≤ 8) (ha : a < 2 ^ n) (hb : b < 2 ^ n) (hx : x ≤ 8) :
    Calls Tryd.prog 129 #[.int .u64 (b : Int), .pointer (some ⟨b1, 0, none⟩), .pointer (some ⟨b2, 0, none⟩), .pointer (some ⟨b3, 0, none⟩)] w fun e w' => e = .returned (.bool (!ansB l all x a b)) ∧ Below w.heap.size w w' := by
  obtain ⟨p0, p1, p2⟩ := blkW h1
  have HI := Lib.hid (isAnswer_any n a b x all vc vs l w hE hc hg hn ha hb hx)
  unfold watV at HI
  clear hE hc hg h1
  go_enter Tryd.func129, Tryd.ntmps129
  go_wp2_with fail
  refine HI.out.mono ?_
  rintro e w1 ⟨rfl, b1⟩
  go_wp2_with fail
  go_ret
  exact ⟨rfl, b1⟩
set_option maxHeartbeats 4000000 in
set_option maxRecDepth 100000 in
theorem answers_any (n a x : Nat) (all : Bool) (vc vs : Value) (L : List Nat) (l : List Ed) (w : World) (hE : Env w) (hc : Nums w vc (clos l n)) (hs : Nums w vs L) (hL : ∀ c ∈ L, c < 2 ^ n) (hLl : L.length ≤ 1048576) (hg : P2.Good (n : Int) l) (hn : n ≤ 8) (ha : a < 2 ^ n) (hx : x ≤ 8) :
    Calls Tryd.prog 103 #[watV all vc vs, .int .u64 (a : Int), .int .i64 (x : Int)] w fun e w' => ∃ A c, e = .returned (.slice A (L.filter (ansB l all x a)).length c) ∧ w'.ownsRow w.heap.size 70 1 (.slice A (L.filter (ansB l all x a)).length c) (L.filter (ansB l all x a)).length (cellsU (L.filter (ansB l all x a))) ∧ Below w.heap.size w w' := by
  have hmf : ∀ (fn : Fn) (first cap : Array Value) (w : World), (Instr.makeFunc fn first cap).run Tryd.prog w = .ok (.func fn first cap) w := fun _ _ _ _ => rfl
  obtain ⟨W0, hW0⟩ : ∃ W0, W0 = ((w.alloc (.cells #[vc, .func (.func (ruleF all)) #[] #[], vs] 67)).alloc (.cells #[.int .u64 (a : Int)] 70)).alloc (.cells #[.int .i64 (x : Int)] 3) := ⟨_, rfl⟩
  have b0 : Below w.heap.size w W0 := by rw [hW0]; exact (((Below.refl _ _).alloc (Nat.le_refl _) _).alloc (by simp) _).alloc (by simp; omega) _
  have g1 : Blk W0 w.heap.size 67 #[vc, .func (.func (ruleF all)) #[] #[], vs] := by rw [hW0]; exact ((Blk.new w 67 #[vc, .func (.func (ruleF all)) #[] #[], vs]).alloc _).alloc _
  have g2 : Blk W0 (w.heap.size + 1) 70 #[.int .u64 (a : Int)] := by
    have h_ := (Blk.new (w.alloc (.cells #[vc, .func (.func (ruleF all)) #[] #[], vs] 67)) 70 #[.int .u64 (a : Int)]).alloc (.cells #[.int .i64 (x : Int)] 3)
    rw [World.size_alloc] at h_
    rw [hW0]; exact h_
  have g3 : Blk W0 (w.heap.size + 2) 3 #[.int .i64 (x : Int)] := by
    have h_ := Blk.new ((w.alloc (.cells #[vc, .func (.func (ruleF all)) #[] #[], vs] 67)).alloc (.cells #[.int .u64 (a : Int)] 70)) 3 #[.int .i64 (x : Int)]
    rw [World.size_alloc, World.size_alloc] at h_
    rw [hW0]; exact h_
  have hz : W0.heap.size = w.heap.size + 3 := by rw [hW0]; simp
  obtain ⟨p0, p1, p2⟩ := blkW g1
  have HCL := Lib.hid (cloneC_any vs L W0 (hs.below b0) hLl)
  have HB0 := Lib.hid b0
  have HG1 := Lib.hid g1
  have HG2 := Lib.hid g2
  have HG3 := Lib.hid g3
  have HE0 := Lib.hid (hE.next b0)
  have HC0 := Lib.hid (hc.below b0)
  have HGD := Lib.hid hg
  have HLM := Lib.hid hL
  have HZ := Lib.hid hz
  have HF : Hid (L.filter (fun b => !!ansB l all x a b) = L.filter (ansB l all x a)) := by
    show _ = _
    congr 1; funext b; rw [Bool.not_not]
  have HW0 := Lib.hid hW0
  unfold watV
  clear hE hc hs hL hg b0 g1 g2 g3 hz hW0
  go_enter Tryd.func103, Tryd.ntmps103
  rw [HW0.out] at p0 p1 p2
  go_wp2_with fail
  rw [← HW0.out]
  refine HCL.out.mono ?_
  rintro e w2 ⟨A2, c2, rfl, o2, b2⟩
  have HDEL := Lib.hid (deleteFuncU_own W0.heap.size (.slice A2 L.length c2) L 129 #[.pointer (some ⟨w.heap.size, 0, none⟩), .pointer (some ⟨w.heap.size + 1, 0, none⟩), .pointer (some ⟨w.heap.size + 2, 0, none⟩)] (fun b => !ansB l all x a b) (fun W => Below W0.heap.size W0 W) w2 o2 hLl
    { go := fun W W' h1 h2 => h1.trans (h2.mono h1.size)
      set := fun g hg W j u h => h.setCell (p := ⟨g, j, none⟩) (o2.lt g hg).1 u }
    { enter := fun _ _ => by kernel_rfl
      call := fun W hW b hb => answersClo_any n a b x w.heap.size (w.heap.size + 1) (w.heap.size + 2) all vc vs l W (HG1.out.below hW HG1.out.lt) ((HG2.out.below hW HG2.out.lt).cell 0) ((HG3.out.below hW HG3.out.lt).cell 0) (HE0.out.next hW) (HC0.out.below hW) HGD.out hn ha (HLM.out b hb) hx } b2)
  rw [HF.out] at HDEL
  clear p0 p1 p2 o2 b2
  go_wp2_with fail
  refine HDEL.out.mono ?_
  rintro e w3 ⟨A3, c3, rfl, o3, -, hk3⟩
  go_wp2_with fail
  go_ret
  exact ⟨A3, c3, rfl, own_base o3 HB0.out.size, HB0.out.trans (hk3.mono HB0.out.size)⟩
end Go.Proofs.YtdhbaegkogklgaaDoor.ups

/- Guards: resistances: mathematics. -/
namespace Go.Proofs.YtdhbaegkogklgaaDoor.ups
open Go.RowKit P2 words edges ints good adjs fns sets rets covs bitsI
set_option linter.unusedVariables false

/-- each attack has an answer among some sets -/
def holdB (n : Nat) (l : List Ed) (all : Bool) (U : List Nat) (a : Nat) : Bool := (List.range n).all fun x => a.testBit x || U.any (ansB l all x a)
/-- the sets that withstand so many attacks -/
def usN (n : Nat) (l : List Ed) (all : Bool) (L : List Nat) : Nat → List Nat
  | 0 => L
  | t + 1 => (usN n l all L t).filter (holdB n l all (usN n l all L t))
theorem us_sub {n : Nat} {l : List Ed} {all : Bool} {L : List Nat} {a : Nat} : ∀ {t d : Nat}, a ∈ usN n l all L (t + d) → a ∈ usN n l all L t
  | t, 0, h => h
  | t, d + 1, h => us_sub (d := d) (List.mem_filter.1 (show a ∈ (usN n l all L (t + d)).filter _ from h)).1
theorem us_mem {n : Nat} {l : List Ed} {all : Bool} {L : List Nat} {a t : Nat} (h : a ∈ usN n l all L t) : a ∈ L := by
  have := us_sub (t := 0) (d := t) (by rw [Nat.zero_add]; exact h)
  exact this
/-- after so many attacks the guards can be beaten -/
def Dep (n : Nat) (l : List Ed) (all : Bool) (L : List Nat) (a t : Nat) : Prop := a ∈ usN n l all L t ∧ a ∉ usN n l all L (t + 1)
theorem dep_same {n : Nat} {l : List Ed} {all : Bool} {L : List Nat} {a t s : Nat} (h : Dep n l all L a t) (k : Dep n l all L a s) : t = s := by
  rcases Nat.lt_trichotomy t s with e | e | e
  · exact absurd (us_sub (t := t + 1) (d := s - (t + 1)) (by rw [show t + 1 + (s - (t + 1)) = s from by omega]; exact k.1)) h.2
  · exact e
  · exact absurd (us_sub (t := s + 1) (d := t - (s + 1)) (by rw [show s + 1 + (t - (s + 1)) = t from by omega]; exact h.1)) k.2
/-- the resistance of a set -/
noncomputable def resV (n : Nat) (l : List Ed) (all : Bool) (L : List Nat) (a : Nat) : Int := if okG (∃ t, Dep n l all L a t) = true then ((Classical.epsilon fun t => Dep n l all L a t : Nat) : Int) else -1
theorem resV_dep {n : Nat} {l : List Ed} {all : Bool} {L : List Nat} {a t : Nat} (h : Dep n l all L a t) : resV n l all L a = (t : Int) := by
  unfold resV
  rw [if_pos (okG_yes ⟨t, h⟩), dep_same (Classical.epsilon_spec (p := fun t => Dep n l all L a t) ⟨t, h⟩) h]
theorem us_stable {n : Nat} {l : List Ed} {all : Bool} {L : List Nat} {t : Nat} (h : usN n l all L (t + 1) = usN n l all L t) : ∀ d, usN n l all L (t + d) = usN n l all L t
  | 0 => rfl
  | d + 1 => by
    show (usN n l all L (t + d)).filter (holdB n l all (usN n l all L (t + d))) = _
    rw [us_stable h d]
    exact h
theorem resV_in {n : Nat} {l : List Ed} {all : Bool} {L : List Nat} {a t : Nat} (hs : usN n l all L (t + 1) = usN n l all L t) (h : a ∈ usN n l all L t) : resV n l all L a = -1 := by
  have hn : ¬ ∃ s, Dep n l all L a s := fun ⟨s, h1, h2⟩ => by
    apply h2
    by_cases e : s + 1 ≤ t
    · exact us_sub (t := s + 1) (d := t - (s + 1)) (by rw [show s + 1 + (t - (s + 1)) = t from by omega]; exact h)
    · have := us_stable hs (s + 1 - t)
      rw [show t + (s + 1 - t) = s + 1 from by omega] at this
      rw [this]; exact h
  unfold resV
  rw [okG_no hn]; rfl
theorem us_fix {n : Nat} {l : List Ed} {all : Bool} {L : List Nat} {t : Nat} (h : (usN n l all L (t + 1)).length = (usN n l all L t).length) : usN n l all L (t + 1) = usN n l all L t :=
  List.filter_eq_self.2 (List.length_filter_eq_length_iff.1 h)
theorem us_len {n : Nat} {l : List Ed} {all : Bool} {L : List Nat} (t : Nat) : (usN n l all L (t + 1)).length ≤ (usN n l all L t).length := List.length_filter_le _ _
/-- not stable before t -/
def Goes (n : Nat) (l : List Ed) (all : Bool) (L : List Nat) (t : Nat) : Prop := (usN n l all L t).length + t ≤ L.length
theorem Goes.zero (n : Nat) (l : List Ed) (all : Bool) (L : List Nat) : Goes n l all L 0 := Nat.le_refl _
theorem Goes.next {n : Nat} {l : List Ed} {all : Bool} {L : List Nat} {t : Nat} (h : Goes n l all L t) (hn : ¬ (usN n l all L (t + 1)).length = (usN n l all L t).length) : Goes n l all L (t + 1) := by
  have := us_len (n := n) (l := l) (all := all) (L := L) t
  unfold Goes at h ⊢
  omega
end Go.Proofs.YtdhbaegkogklgaaDoor.ups
