/- Evasions: plain mathematics. -/
import Derived.Handy
import Derived.Test.YtphlpipbhaiijaaGameN
import Derived.Test.YtphlpipbhaiijaaSets
import Derived.Test.YtphlpipbhaiijaaHuntI
import Derived.Test.YtphlpipbhaiijaaFunc
import Derived.Deep.DeepCutAuto
import Derived.Deep.QuietTactic
import Derived.Deep.RegionHeld3
import Derived.StillTailTactics
import Derived.Test.YtphlpipbhaiijaaGridL
import Derived.Test.YtphlpipbhaiijaaGridW
import Derived.Test.YtphlpipbhaiijaaOwn
import Derived.Test.YtphlpipbhaiijaaProg
import Derived.Test.YtphlpipbhaiijaaWords
import Derived.Deep.Slices
import Derived.Lib.SmallJoins
import Derived.OpenShut
import Derived.Test.YtphlpipbhaiijaaGridR
namespace Go.Proofs.Ytphlpipbhaiijaa.evas
open Go.RowKit P2 words edges ints good adjs fns sets rets covs bitsI times lists
set_option linter.unusedVariables false

/-- cops can stay -/
theorem stay_ok {l : List Ed} {n k c : Nat} : (gameN l n k).mv c c = true := by
  show canN (ballB l) (cfg n k c) (cfg n k c) 0 = true
  refine (can_iff _ 0).2 ⟨cfg n k c, [], ?_, ?_⟩
  · generalize cfg n k c = L
    induction L with
    | nil => trivial
    | cons x L ih => exact ⟨by unfold ballB; simp, ih⟩
  · rw [List.append_nil, rest_zero]
/-- the robber at a node is safe at a place, by some sets -/
def EvAt (l : List Ed) (n k : Nat) (sets : List (List Int)) (c x : Nat) : Prop :=
  ∀ q, q < (gameN l n k).P → (gameN l n k).mv c q = true → (gameN l n k).tk q x = false ∧ ∃ y : Nat, y < n ∧ ballB l x y = true ∧ (y : Int) ∈ sets.getD q []
def EvC (l : List Ed) (n k : Nat) (sets : List (List Int)) (c : Nat) : Prop :=
  SetOk (n : Int) l (sets.getD c []) ∧ sets.getD c [] ≠ [] ∧ ∀ x ∈ sets.getD c [], EvAt l n k sets c x.toNat
def EvS (l : List Ed) (n k : Nat) (sets : List (List Int)) : Prop := sets.length = (gameN l n k).P ∧ ∀ c, c < (gameN l n k).P → EvC l n k sets c
def EvOk (s : Int) (l : List Ed) (k : Int) (sets : List (List Int)) : Prop := cops.FieldP s l k ∧ EvS l s.toNat k.toNat sets
theorem EvAt.here {l : List Ed} {n k : Nat} {sets : List (List Int)} {c x : Nat} (h : EvAt l n k sets c x) (hc : c < (gameN l n k).P) : (gameN l n k).tk c x = false := (h c hc stay_ok).1
/-- what the program reckons for one move -/
def lostB (l : List Ed) (n k : Nat) (f : Nat → Nat) (x q : Nat) : Bool := (gameN l n k).tk q x || decide (cloB l x &&& f q = 0)
theorem lost_iff {l : List Ed} {n k : Nat} {sets : List (List Int)} (hg : P2.Good (n : Int) l) {c x : Nat} (hc : c < (gameN l n k).P) (hv : ∀ q, q < (gameN l n k).P → ∀ y ∈ sets.getD q [], 0 ≤ y ∧ y < (n : Int)) :
    ((mvN l n k c).any fun q => lostB l n k (fun q => codeL (sets.getD q [])) x q.toNat) = false ↔ EvAt l n k sets c x := by
  rw [List.any_eq_false]
  constructor
  · intro h q hq hm
    have h1 := h (q : Int) (mem_nw.2 ⟨q, hq, hm, rfl⟩)
    rw [Int.toNat_natCast] at h1
    unfold lostB at h1
    rw [Bool.or_eq_true, not_or] at h1
    refine ⟨by simpa using h1.1, ?_⟩
    have h2 : ¬ (cloB l x &&& codeL (sets.getD q []) = 0) := by simpa using h1.2
    obtain ⟨i, hi⟩ : ∃ i, (cloB l x &&& codeL (sets.getD q [])).testBit i = true := by
      apply Classical.byContradiction
      intro hn
      refine h2 (Nat.eq_of_testBit_eq fun i => ?_)
      rw [Nat.zero_testBit]
      cases hb : (cloB l x &&& codeL (sets.getD q [])).testBit i with
      | false => rfl
      | true => exact absurd ⟨i, hb⟩ hn
    rw [Nat.testBit_and, Bool.and_eq_true, code_bit (fun y hy => (hv q hq y hy).1), cloB_bit hg] at hi
    have hm2 := of_decide_eq_true hi.2
    have := hv q hq _ hm2
    exact ⟨i, by omega, hi.1, hm2⟩
  · intro h q hq
    obtain ⟨j, hj, hm, rfl⟩ := mem_nw.1 hq
    obtain ⟨h1, y, hy, hb, hmem⟩ := h j hj hm
    rw [Int.toNat_natCast]
    unfold lostB
    rw [h1, Bool.false_or, decide_eq_true_iff]
    intro h0
    have h2 : (cloB l x &&& codeL (sets.getD j [])).testBit y = true := by
      rw [Nat.testBit_and, code_bit (fun y hy => (hv j hj y hy).1), cloB_bit hg, decide_eq_true hmem]
      unfold ballB at hb
      rw [hb]; rfl
    rw [h0, Nat.zero_testBit] at h2
    cases h2
end Go.Proofs.Ytphlpipbhaiijaa.evas

/- Evasions: the contracts of the program's isSafe and of the closure of IsEvasion. -/
namespace Go.Proofs.Ytphlpipbhaiijaa.evas
open Go.RowKit P2 words edges ints good adjs fns sets rets covs bitsI times lists gridr func
set_option linter.unusedVariables false

set_option maxHeartbeats 1000000 in
set_option maxRecDepth 100000 in
theorem safeClo_any (n k q x bg bs br : Nat) (f : Nat → Nat) (cv tv mv xv sv : Value) (us : List Value) (l : List Ed) (w : World) (hC : ChaseR w (gameN l n k) l (mvG l n k) cv tv mv us)
    (h1 : Blk w bg 93 #[cv, tv, mv, xv]) (h2 : w.cell? ⟨bs, 0, none⟩ = some sv) (hs : Nums w sv ((List.range (gameN l n k).P).map f)) (h3 : w.cell? ⟨br, 0, none⟩ = some (.int .i64 (x : Int))) (hq : q < (gameN l n k).P) (hx : x < n) (hf : ∀ q, q < (gameN l n k).P → f q < 256) :
    Calls Try.prog 149 #[.int .i64 (q : Int), .pointer (some ⟨bg, 0, none⟩), .pointer (some ⟨br, 0, none⟩), .pointer (some ⟨bs, 0, none⟩)] w fun e w' => e = .returned (.bool (lostB l n k f x q)) ∧ Below w.heap.size w w' := by
  have hn : n ≤ 8 := hC.n8
  have hg : P2.Good (n : Int) l := hC.good
  obtain ⟨Ac, cc, rfl, hcc⟩ := hC.closed.form
  obtain ⟨At, ct, rfl, hct⟩ := hC.taken.form
  obtain ⟨As, cs, rfl, hcs⟩ := hs.form
  obtain ⟨g1, o1, rfl, c1⟩ := hcc x _ (clos_at (show x < (gameN l n k).n from hx))
  obtain ⟨g2, o2, rfl, c2⟩ := hct q (numOf ((gameN l n k).tk q) n) (by show (List.map _ _)[q]? = _; simp [hq]; rfl)
  obtain ⟨g3, o3, rfl, c3⟩ := hcs q (f q) (by simp [hq])
  obtain ⟨p0, p1, -, -⟩ := blk4 h1
  have hl1 : (clos l (gameN l n k).n).length = n := clos_len l n
  have hl2 : (codesL (gameN l n k).P (gameN l n k).n (gameN l n k).tk).length = (gameN l n k).P := by simp [codesL]
  have hl3 : ((List.range (gameN l n k).P).map f).length = (gameN l n k).P := by simp
  rw [hl1] at p0
  rw [hl2] at p1
  rw [hl3] at h2
  have HH := Lib.hid (fun (m : Nat) => has_any (numOf ((gameN l n k).tk q) n) x (w.drewN m) (by have := numOf_lt ((gameN l n k).tk q) hn; omega) (by omega))
  rw [numOf_bit, decide_eq_true hx, Bool.true_and] at HH
  have hcl := cloB_lt' hg x (by omega)
  have hfq := hf q hq
  have hAN : bits .and .u64 ((cloB l x : Nat) : Int) ((f q : Nat) : Int) = ((cloB l x &&& f q : Nat) : Int) := bits_and_u64_nat _ _ (by omega) (by omega)
  have hq' : (q : Int) < ((gameN l n k).P : Int) := by omega
  have hx' : (x : Int) < (n : Int) := by omega
  have HB : Hid (Below w.heap.size w w) := Below.refl _ _
  cases htk : (gameN l n k).tk q x with
  | true =>
    have HV : Hid (lostB l n k f x q = true) := by show _ = _; unfold lostB; rw [htk]; rfl
    rw [htk] at HH
    clear hcc hct hcs hC hs h1 hl1 hl2 hl3 htk hf
    go_enter Try.func149, Try.ntmps149
    go_wp2_with fail
    go_quiet (first | (go_at_call 114; exact quiet_left (HH.out _)))
    go_wp2_with fail
    go_ret
    rw [HV.out]
    exact ⟨rfl, below_drewN HB.out _⟩
  | false =>
    have HV : Hid (lostB l n k f x q = decide (cloB l x &&& f q = 0)) := by show _ = _; unfold lostB; rw [htk]; rfl
    rw [htk] at HH
    clear hcc hct hcs hC hs h1 hl1 hl2 hl3 htk hf
    generalize f q = fq at *
    generalize cloB l x &&& fq = an at *
    generalize cloB l x = cx at *
    by_cases h0 : an = 0
    · have HV2 : Hid (lostB l n k f x q = true) := by show _ = _; rw [HV.out, h0]; rfl
      subst h0
      go_enter Try.func149, Try.ntmps149
      go_wp2_with fail
      go_quiet (first | (go_at_call 114; exact quiet_left (HH.out _)))
      go_wp2_with fail
      go_ret
      rw [HV2.out]
      exact ⟨rfl, below_drewN HB.out _⟩
    · have HV2 : Hid (lostB l n k f x q = false) := by show _ = _; rw [HV.out]; exact decide_eq_false h0
      have hd0 : ((an : Int) == 0) = false := by simp; omega
      go_enter Try.func149, Try.ntmps149
      go_wp2_with fail
      go_quiet (first | (go_at_call 114; exact quiet_left (HH.out _)))
      go_wp2_with fail
      go_ret
      rw [HV2.out]
      exact ⟨rfl, below_drewN HB.out _⟩
set_option maxHeartbeats 1000000 in
set_option maxRecDepth 100000 in
theorem isSafe_any (n k p x : Nat) (f : Nat → Nat) (cv tv mv xv sv : Value) (us : List Value) (l : List Ed) (w : World) (hC : ChaseR w (gameN l n k) l (mvG l n k) cv tv mv us)
    (hs : Nums w sv ((List.range (gameN l n k).P).map f)) (hp : p < (gameN l n k).P) (hx : x < n) (hf : ∀ q, q < (gameN l n k).P → f q < 256) :
    Calls Try.prog 99 #[.agg #[cv, tv, mv, xv], sv, .int .i64 (p : Int), .int .i64 (x : Int)] w fun e w' => e = .returned (.bool (!(mvN l n k p).any fun q => lostB l n k f x q.toNat)) ∧ Below w.heap.size w w' := by
  obtain ⟨Am, cm, hmv, -⟩ := hC.lists.1
  obtain ⟨As, cs, hsv, -⟩ := hs.form
  have hl3 : ((List.range (gameN l n k).P).map f).length = (gameN l n k).P := by simp
  rw [hl3] at hsv
  rw [mvG_len] at hmv
  subst hmv
  subst hsv
  obtain ⟨u, g5, o5, hu5, rfl, c5, hr5⟩ := hC.lists.row (mvG_at hp)
  obtain ⟨A6, c6, rfl, -⟩ := hr5.form
  have hmf : ∀ (fn : Fn) (first cap : Array Value) (w : World), (Instr.makeFunc fn first cap).run Try.prog w = .ok (.func fn first cap) w := fun _ _ _ _ => rfl
  have hp' : (p : Int) < ((gameN l n k).P : Int) := by omega
  have hml := mvN_len l n k p
  have hsm := hC.small
  have b1 : Below w.heap.size w (w.alloc (.cells #[cv, tv, .slice (some ⟨g5, o5, none⟩) (gameN l n k).P cm, xv] 93)) := (Below.refl _ _).alloc (Nat.le_refl _) _
  have b2 : Below w.heap.size w ((w.alloc (.cells #[cv, tv, .slice (some ⟨g5, o5, none⟩) (gameN l n k).P cm, xv] 93)).alloc (.cells #[.slice As (gameN l n k).P cs] 56)) := b1.alloc (by simp) _
  have b3 : Below w.heap.size w (((w.alloc (.cells #[cv, tv, .slice (some ⟨g5, o5, none⟩) (gameN l n k).P cm, xv] 93)).alloc (.cells #[.slice As (gameN l n k).P cs] 56)).alloc (.cells #[.int .i64 (x : Int)] 3)) := b2.alloc (by simp; omega) _
  have G1 := Lib.hid (((Blk.new w 93 #[cv, tv, .slice (some ⟨g5, o5, none⟩) (gameN l n k).P cm, xv]).alloc (.cells #[.slice As (gameN l n k).P cs] 56)).alloc (.cells #[.int .i64 (x : Int)] 3))
  have g2 := (Blk.new (w.alloc (.cells #[cv, tv, .slice (some ⟨g5, o5, none⟩) (gameN l n k).P cm, xv] 93)) 56 #[.slice As (gameN l n k).P cs]).alloc (.cells #[.int .i64 (x : Int)] 3)
  rw [World.size_alloc] at g2
  have G2 := Lib.hid g2
  have g3 := Blk.new ((w.alloc (.cells #[cv, tv, .slice (some ⟨g5, o5, none⟩) (gameN l n k).P cm, xv] 93)).alloc (.cells #[.slice As (gameN l n k).P cs] 56)) 3 #[.int .i64 (x : Int)]
  rw [World.size_alloc, World.size_alloc] at g3
  have G3 := Lib.hid g3
  have HB3 := Lib.hid b3
  have HCF := Lib.hid (containsFuncI_any (.slice A6 (mvN l n k p).length c6) (mvN l n k p) 149 #[.pointer (some ⟨w.heap.size, 0, none⟩), .pointer (some ⟨w.heap.size + 1 + 1, 0, none⟩), .pointer (some ⟨w.heap.size + 1, 0, none⟩)] (fun q => lostB l n k f x q.toNat) _ (hr5.below b3) (by omega)
    { enter := fun _ _ => by kernel_rfl
      call := fun W hW y hy => by
        obtain ⟨j, hj, _, rfl⟩ := mem_nw.1 hy
        rw [Int.toNat_natCast]
        exact safeClo_any n k j x w.heap.size (w.heap.size + 1) (w.heap.size + 1 + 1) f cv tv _ xv _ us l W (hC.below (btrans b3 hW)) (G1.out.below hW G1.out.lt) ((G2.out.below hW G2.out.lt).cell 0) (hs.below (btrans b3 hW)) ((G3.out.below hW G3.out.lt).cell 0) hj hx hf })
  obtain ⟨p0, p1, p2, p3⟩ := blk4 G1.out
  have q5 := nearv.cell_keep c5 b3
  clear hC hs hu5 c5 hr5 b1 b2 b3 g2 g3 hl3
  go_enter Try.func99, Try.ntmps99
  go_wp2_with fail
  refine HCF.out.mono ?_
  rintro e w4 ⟨rfl, b4⟩
  have HB4 := Lib.hid (btrans HB3.out b4)
  go_wp2_with fail
  go_ret
  exact ⟨rfl, HB4.out⟩
set_option maxHeartbeats 1000000 in
set_option maxRecDepth 100000 in
theorem evClo_any (n k p x bg bs bp : Nat) (f : Nat → Nat) (cv tv mv xv lv sv : Value) (us : List Value) (l : List Ed) (w : World) (hC : ChaseR w (gameN l n k) l (mvG l n k) cv tv mv us)
    (h1 : Blk w bg 95 #[cv, tv, mv, xv, lv]) (h2 : w.cell? ⟨bs, 0, none⟩ = some sv) (hs : Nums w sv ((List.range (gameN l n k).P).map f)) (h3 : w.cell? ⟨bp, 0, none⟩ = some (.int .i64 (p : Int))) (hp : p < (gameN l n k).P) (hx : x < n) (hf : ∀ q, q < (gameN l n k).P → f q < 256) :
    Calls Try.prog 98 #[.int .i64 (x : Int), .pointer (some ⟨bg, 0, none⟩), .pointer (some ⟨bs, 0, none⟩), .pointer (some ⟨bp, 0, none⟩)] w fun e w' => e = .returned (.bool ((mvN l n k p).any fun q => lostB l n k f x q.toNat)) ∧ Below w.heap.size w w' := by
  have HS := Lib.hid (isSafe_any n k p x f cv tv mv xv sv us l w hC hs hp hx hf)
  obtain ⟨p0, p1, p2, p3, p4⟩ := blk5 h1
  clear hC hs h1
  generalize (mvN l n k p).any (fun q => lostB l n k f x q.toNat) = r at *
  go_enter Try.func98, Try.ntmps98
  go_wp2_with fail
  refine HS.out.mono ?_
  rintro e w4 ⟨rfl, b4⟩
  go_wp2_with fail
  go_ret
  exact ⟨by simp, b4⟩
end Go.Proofs.Ytphlpipbhaiijaa.evas

/- The game of some cops: the contract of the program's huntIn where it fails. -/
namespace Go.Proofs.Ytphlpipbhaiijaa.lists
open Go.RowKit P2 words edges ints good adjs fns sets rets apps gridr grid trip covs bitsI times mids filled cops
set_option linter.unusedVariables false

set_option maxHeartbeats 1000000 in
set_option maxRecDepth 100000 in
theorem huntIn_no (s k : Int) (v : Value) (l : List Ed) (w : World) (h : Edges w v l) (hl : l.length ≤ 1048576) (hf : ¬ FieldP s l k) :
    Calls Try.prog 94 #[.agg #[.int .i64 s, v], .int .i64 k] w fun e w' => e = .returned (.tuple #[.agg #[.slice none 0 0, .slice none 0 0, .slice none 0 0, .slice none 0 0, .slice none 0 0], .bool false]) ∧ Below w.heap.size w w' := by
  obtain ⟨A, c, rfl, -⟩ := h.form
  have HF := Lib.hid hf
  have b0 : Below w.heap.size w ((w.alloc (.cells #[.int .i64 s, .slice A l.length c] 29)).alloc (.cells #[.slice none 0 0, .slice none 0 0, .slice none 0 0, .slice none 0 0, .slice none 0 0] 95)) := ((Below.refl _ _).alloc (Nat.le_refl _) _).alloc (by simp) _
  have g0 := (Blk.new w 29 #[.int .i64 s, .slice A l.length c]).alloc (.cells #[.slice none 0 0, .slice none 0 0, .slice none 0 0, .slice none 0 0, .slice none 0 0] 95)
  have r0 := Blk.new (w.alloc (.cells #[.int .i64 s, .slice A l.length c] 29)) 95 #[.slice none 0 0, .slice none 0 0, .slice none 0 0, .slice none 0 0, .slice none 0 0]
  rw [World.size_alloc] at r0
  obtain ⟨p0, p1, -, -⟩ := g0.two
  have HCL := Lib.hid (implCopL_any s k (.slice A l.length c) l _ (h.below b0) hl)
  clear h hf
  go_enter Try.func94, Try.ntmps94
  go_wp2_with fail
  refine HCL.out.mono ?_
  rintro e w1 ⟨A1, c1, ul, rfl, o1, b1⟩
  rw [okG_no HF.out]
  have hr1 := r0.below b1 r0.lt
  have hB1 := btrans b0 b1
  obtain ⟨r0', r1', r2', r3', r4'⟩ := blk5 hr1
  have z0 := hr1.frozen 0
  have z1 := hr1.frozen 1
  have z2 := hr1.frozen 2
  have z3 := hr1.frozen 3
  have z4 := hr1.frozen 4
  have h5 := ((((hr1.set_ 0 (.slice none 0 0)).set_ 1 (.slice none 0 0)).set_ 2 (.slice none 0 0)).set_ 3 (.slice none 0 0)).set_ 4 (.slice none 0 0)
  have HQ : Hid (Blk (((((w1.setCell ⟨w.heap.size + 1, 0, none⟩ (.slice none 0 0)).setCell ⟨w.heap.size + 1, 1, none⟩ (.slice none 0 0)).setCell ⟨w.heap.size + 1, 2, none⟩ (.slice none 0 0)).setCell ⟨w.heap.size + 1, 3, none⟩ (.slice none 0 0)).setCell ⟨w.heap.size + 1, 4, none⟩ (.slice none 0 0)) (w.heap.size + 1) 95 #[.slice none 0 0, .slice none 0 0, .slice none 0 0, .slice none 0 0, .slice none 0 0]) := by
    show Blk _ _ _ _
    simpa using h5
  have HBB : Hid (Below w.heap.size w (((((w1.setCell ⟨w.heap.size + 1, 0, none⟩ (.slice none 0 0)).setCell ⟨w.heap.size + 1, 1, none⟩ (.slice none 0 0)).setCell ⟨w.heap.size + 1, 2, none⟩ (.slice none 0 0)).setCell ⟨w.heap.size + 1, 3, none⟩ (.slice none 0 0)).setCell ⟨w.heap.size + 1, 4, none⟩ (.slice none 0 0))) :=
    ((((hB1.setCell (Nat.le_succ _) _).setCell (Nat.le_succ _) _).setCell (Nat.le_succ _) _).setCell (Nat.le_succ _) _).setCell (Nat.le_succ _) _
  clear HCL b0 g0 r0 b1 o1 h5 hr1 hB1 p0 p1
  go_wp2_with fail
  obtain ⟨q0, q1, q2, q3, q4⟩ := blk5 HQ.out
  exact bodyPost_ret (v := .tuple #[.agg #[.slice none 0 0, .slice none 0 0, .slice none 0 0, .slice none 0 0, .slice none 0 0], .bool false]) (by simp [results, Try.results94, go_sem, q0, q1, q2, q3, q4]) rfl ⟨rfl, HBB.out⟩
end Go.Proofs.Ytphlpipbhaiijaa.lists

/- Evasions: the contract of the program's IsEvasion. -/
namespace Go.Proofs.Ytphlpipbhaiijaa.evas
open Go.RowKit P2 words edges ints good adjs fns sets rets covs bitsI times lists gridr func
set_option linter.unusedVariables false

/-- the first c numbers, and noughts behind them -/
def sfR (f : Nat → Nat) (P c : Nat) : List Nat := (List.range c).map f ++ List.replicate (P - c) 0
theorem sfR_len (f : Nat → Nat) {P c : Nat} (h : c ≤ P) : (sfR f P c).length = P := by simp [sfR]; omega
theorem sfR_zero (f : Nat → Nat) (P : Nat) : sfR f P 0 = List.replicate P 0 := by simp [sfR]
theorem sfR_all (f : Nat → Nat) (P : Nat) : sfR f P P = (List.range P).map f := by simp [sfR]
theorem sfR_set {f : Nat → Nat} {P c : Nat} (h : c < P) : (sfR f P c).set c (f c) = sfR f P (c + 1) := by
  unfold sfR
  rw [show P - c = (P - (c + 1)) + 1 from by omega, List.replicate_succ, List.set_append_right _ _ (by simp), List.length_map, List.length_range, Nat.sub_self, List.set_cons_zero, List.range_succ, List.map_append, List.append_assoc]
  rfl
theorem retBB2 {a b c d : Bool} (h : a = c) (h2 : b = d) : Ending.returned (.tuple #[.bool a, .bool b]) = .returned (.tuple #[.bool c, .bool d]) := by rw [h, h2]
/-- the answer of the closure over a whole set -/
theorem evc_iff {l : List Ed} {n k q : Nat} {sets : List (List Int)} {r : List Int} (hg : P2.Good (n : Int) l) (hq : q < (gameN l n k).P) (hr : sets.getD q [] = r) (hv : ∀ c, c < (gameN l n k).P → SetOk (n : Int) l (sets.getD c []) ∧ sets.getD c [] ≠ []) :
    (r.any fun y => (mvN l n k q).any fun j => lostB l n k (fun c => codeL (sets.getD c [])) y.toNat j.toNat) = false ↔ EvC l n k sets q := by
  subst hr
  rw [List.any_eq_false]
  constructor
  · intro h
    refine ⟨(hv q hq).1, (hv q hq).2, fun x hx => ?_⟩
    have h1 := h x hx
    exact (lost_iff hg hq (fun c hc y hy => (hv c hc).1.2.1 y hy)).1 (by simpa using h1)
  · rintro ⟨-, -, h⟩ x hx
    rw [(lost_iff hg hq (fun c hc y hy => (hv c hc).1.2.1 y hy)).2 (h x hx)]
    simp
theorem getD_of {sets : List (List Int)} {c : Nat} {r : List Int} (h : sets[c]? = some r) : sets.getD c [] = r := by simp [List.getD, h]
set_option maxHeartbeats 8000000 in
set_option maxRecDepth 100000 in
theorem implEv_any (s k : Int) (v : Value) (l : List Ed) (A2 : Option Addr) (c2 : Nat) (us : List Value) (sets : List (List Int)) (w : World) (h : Edges w v l) (hl : l.length ≤ 1048576) (h2 : ReadsG w (.slice A2 sets.length c2) us sets) (hm : sets.length ≤ 1048576) (hrw : ∀ r ∈ sets, r.length ≤ 1048576) :
    Calls Try.prog 46 #[.agg #[.int .i64 s, v], .int .i64 k, .slice A2 sets.length c2] w fun e w' => e = .returned (.tuple #[.bool (okG (EvOk s l k sets)), .bool (okG (cops.FieldP s l k))]) ∧ Below w.heap.size w w' := by
  obtain ⟨A, c, rfl, -⟩ := h.form
  have H := Lib.hid h
  have HS := Lib.hid h2
  have HRW := Lib.hid hrw
  have b0 : Below w.heap.size w (w.alloc (.cells #[.int .i64 s, .slice A l.length c] 29)) := (Below.refl _ _).alloc (Nat.le_refl _) _
  have g0 := Blk.new w 29 #[.int .i64 s, .slice A l.length c]
  have HB0 := Lib.hid b0
  have HG0 := Lib.hid g0
  obtain ⟨p0, p1, -, -⟩ := g0.two
  have hmf : ∀ (fn : Fn) (first cap : Array Value) (w : World), (Instr.makeFunc fn first cap).run Try.prog w = .ok (.func fn first cap) w := fun _ _ _ _ => rfl
  by_cases hf : cops.FieldP s l k
  · have h0 := hf.1.1
    have h8 := hf.1.2.1
    have hk1 := hf.2.2.1
    have hk3 := hf.2.2.2
    obtain ⟨n, rfl⟩ : ∃ n : Nat, s = (n : Int) := ⟨s.toNat, by omega⟩
    obtain ⟨kk, rfl⟩ : ∃ n : Nat, k = (n : Int) := ⟨k.toNat, by omega⟩
    have hn : n ≤ 8 := by omega
    have HFP := Lib.hid hf
    have HPF : Hid (okG (cops.FieldP (n : Int) l (kk : Int)) = true) := okG_yes hf
    have HOK : Hid (EvOk (n : Int) l (kk : Int) sets ↔ EvS l n kk sets) := by
      show _ ↔ _
      unfold EvOk
      rw [Int.toNat_natCast, Int.toNat_natCast]
      exact ⟨fun h => h.2, fun h => ⟨hf, h⟩⟩
    have HHU := Lib.hid (huntIn_yes n kk (.slice A l.length c) l _ (h.below b0) hl hf)
    have hgood := hf.1
    obtain ⟨i0, hi, hz0, hz1, hz2⟩ := info_parts infoU
    clear h h2 hrw hf b0 g0
    go_enter Try.func46, Try.ntmps46
    go_wp2_with fail
    refine HHU.out.mono ?_
    rintro e w2 ⟨cv, tv, mv, xv, lv, us1, us2, ul, rfl, hC, ⟨Ax, cx, rfl⟩, oX, ⟨Al, cl, rfl⟩, oL, b2⟩
    have HE2 := Lib.hid (btrans HB0.out b2)
    have HG2 := Lib.hid (HG0.out.below b2 HG0.out.lt)
    have hsm := hC.small
    obtain ⟨Ac, cc, rfl, -⟩ := hC.closed.form
    obtain ⟨At, ct, rfl, -⟩ := hC.taken.form
    obtain ⟨Am, cm, rfl, -⟩ := hC.lists.1
    have hrl : (rowsN (listsN n kk 0)).length = (gameN l n kk).P := rowsN_len _
    rw [hrl]
    have HC := Lib.hid hC
    clear hC oX oL b2 HHU HB0 HG0 p0 p1 hrl
    generalize (gridG (gameN l n kk).P n (tms (gameN l n kk))).length = xl at *
    generalize (clos l (gameN l n kk).n).length = z1 at *
    generalize (codesL (gameN l n kk).P (gameN l n kk).n (gameN l n kk).tk).length = z2 at *
    generalize (mvG l n kk).length = z3 at *
    have b3 : Below w2.heap.size w2 (w2.alloc (.cells #[.slice Ac z1 cc, .slice At z2 ct, .slice Am z3 cm, .slice Ax xl cx, .slice Al (gameN l n kk).P cl] 95)) := (Below.refl _ _).alloc (Nat.le_refl _) _
    have HK3 := Lib.hid (Blk.new w2 95 #[.slice Ac z1 cc, .slice At z2 ct, .slice Am z3 cm, .slice Ax xl cx, .slice Al (gameN l n kk).P cl])
    have HE3 := Lib.hid (btrans HE2.out b3)
    have HG3 := Lib.hid (HG2.out.below b3 HG2.out.lt)
    have HC3 := Lib.hid (HC.out.below b3)
    obtain ⟨k0, k1, k2, k3, k4⟩ := blk5 HK3.out
    obtain ⟨p0, p1, -, -⟩ := HG3.out.two
    clear b3 HG2 HC HE2
    by_cases hlen : sets.length = (gameN l n kk).P
    · have HLN := Lib.hid hlen
      rw [hlen]
      have hmk := fun (W : World) => run_make_rowN (P := Try.prog) 56 68 i0 (.int .u64 0) Try.underlying56 hi hz0 .i64 .i64 (gameN l n kk).P (gameN l n kk).P (Nat.le_refl _) (by rw [hz2]; omega) (by omega) W
      rw [hz1] at hmk
      simp only [Nat.mul_one] at hmk
      have hlen2 := hlen
      clear hlen hlen2
      obtain ⟨P, hP⟩ : ∃ P, P = (gameN l n kk).P := ⟨_, rfl⟩
      have HP := Lib.hid hP
      rw [← hP] at hmk hsm ⊢
      obtain ⟨f, hfd⟩ : ∃ f : Nat → Nat, f = fun q => codeL (sets.getD q []) := ⟨_, rfl⟩
      have HFD := Lib.hid hfd
      clear hfd hP
      rw [← HP.out] at HK3 HE3 HG3 HC3
      go_wp2_with fail
      have hz3 : (w2.alloc (.cells #[.slice Ac z1 cc, .slice At z2 ct, .slice Am z3 cm, .slice Ax xl cx, .slice Al P cl] 95)).heap.size = w2.heap.size + 1 := by simp
      generalize w2.alloc (.cells #[.slice Ac z1 cc, .slice At z2 ct, .slice Am z3 cm, .slice Ax xl cx, .slice Al P cl] 95) = w3 at *
      have hown := World.ownsRow_lit (base := w3.heap.size) (e := 68) (size := 1) w3 (madeCells #[Value.int .u64 0] (P * 1)) P (Nat.le_refl _) (by unfold maxLen; omega) (size_madeCells _ _)
      rw [toList_madeCells_one, Nat.mul_one, show List.replicate P (Value.int .u64 0) = cellsU (sfR f P 0) from by rw [sfR_zero]; simp [cellsU]] at hown
      have HO3 := Lib.hid (hown.alloc (.cells #[.slice (some ⟨w3.heap.size, 0, none⟩) P P] 56))
      have hv := Blk.new (w3.alloc (.cells (madeCells #[.int .u64 0] P) 68)) 56 #[.slice (some ⟨w3.heap.size, 0, none⟩) P P]
      rw [World.size_alloc] at hv
      have HV3 := Lib.hid hv
      have HB4 := Lib.hid (((Below.refl w3.heap.size w3).alloc (Nat.le_refl _) (.cells (madeCells #[.int .u64 0] P) 68)).alloc (by simp) (.cells #[.slice (some ⟨w3.heap.size, 0, none⟩) P P] 56))
      rw [hz3] at HO3 HV3 HB4
      have HBZ : Hid (∀ W : World, Below (w2.heap.size + 1) w3 W → Below w3.heap.size w3 W) := fun W hW => by rw [hz3]; exact hW
      have HX0 : Hid (∀ q, q < 0 → SetOk (n : Int) l (sets.getD q []) ∧ sets.getD q [] ≠ []) := fun q hq => by omega
      have HNO : Hid (∀ q, q < P → ¬ (SetOk (n : Int) l (sets.getD q []) ∧ sets.getD q [] ≠ []) → okG (EvOk (n : Int) l (kk : Int) sets) = false) := fun q hq hh => okG_no fun hok => hh (by
        have := (HOK.out.1 hok).2 q (by rw [← HP.out]; exact hq)
        exact ⟨this.1, this.2.1⟩)
      clear hown hv hmk k0 k1 k2 k3 k4 p0 p1
      go_loopg [37] P (fun g iv wr => ∃ q : Nat, q + g = P ∧ iv = .int .i64 (q : Int) ∧ Hid (∀ q', q' < q → SetOk (n : Int) l (sets.getD q' []) ∧ sets.getD q' [] ≠ []) ∧ wr.ownsRow (w2.heap.size + 1) 68 1 (.slice (some ⟨w2.heap.size + 1, 0, none⟩) P P) P (cellsU (sfR f P q)) ∧ Blk wr (w2.heap.size + 1 + 1) 56 #[.slice (some ⟨w2.heap.size + 1, 0, none⟩) P P] ∧ Below (w2.heap.size + 1) w3 wr)
      case atStart => exact ⟨0, by omega, rfl, HX0, HO3.out, HV3.out, HB4.out⟩
      case round =>
        clear HX0 HO3 HV3 HB4
        obtain ⟨q, hqg, rfl, hval, hrow, hvb, hB⟩ := hrel
        have HB := Lib.hid hB
        have HVB := Lib.hid hvb
        have HR := Lib.hid hrow
        have hgb := HG3.out.below hB (by have := HG3.out.lt; omega)
        obtain ⟨p0, p1, -, -⟩ := hgb.two
        have HGB := Lib.hid hgb
        cases gk with
        | zero =>
          obtain rfl : q = P := by omega
          have HAL := Lib.hid (sfR_all f q)
          rw [HAL.out] at HR
          have HNU := Lib.hid (times.own_nums HR.out (by simp))
          have HK9 := Lib.hid (HK3.out.below hB (by omega))
          have HC9 := Lib.hid (HC3.out.below (HBZ.out _ hB))
          have HB9 := Lib.hid (btrans HE3.out (HBZ.out _ hB))
          have HNU2 : Hid (Nums wr (.slice (some ⟨w2.heap.size + 1, 0, none⟩) q q) ((List.range (gameN l n kk).P).map fun c => codeL (sets.getD c []))) := by
            show Nums _ _ _
            rw [← HP.out]
            have := HNU.out
            rw [HFD.out] at this
            exact this
          clear HNU HR hgb hB hrow hvb p0 p1 HGB HB HK3 HC3 HE3 HG3 HBZ HNO
          go_wp2_with fail
          go_loopg [59] q (fun g iv wl => ∃ t : Nat, t + g = q ∧ iv = .int .i64 (t : Int) ∧ Hid (∀ c, c < t → EvC l n kk sets c) ∧ Below wr.heap.size wr wl)
          case atStart => exact ⟨0, by omega, rfl, fun c hc => by omega, Below.refl _ _⟩
          case round =>
            obtain ⟨t, htg, rfl, hvl, hBl⟩ := hrel
            have HBL := Lib.hid hBl
            cases gk with
            | zero =>
              obtain rfl : t = q := by omega
              have HYES : Hid (okG (EvOk (n : Int) l (kk : Int) sets) = true) := okG_yes (HOK.out.2 ⟨by rw [HLN.out], fun c hc => hvl.out c (by rw [HP.out]; exact hc)⟩)
              clear hBl
              go_wp2_with fail
              go_ret2
              exact ⟨retBB2 HYES.out.symm HPF.out.symm, btrans HB9.out HBL.out⟩
            | succ g2 =>
              have hlt : t < q := by omega
              have hlt' : (t : Int) < (q : Int) := by omega
              obtain ⟨r, hr⟩ : ∃ r, sets[t]? = some r := ⟨_, List.getElem?_eq_getElem (by rw [HLN.out, ← HP.out]; exact hlt)⟩
              have hrl := HRW.out r (List.mem_of_getElem? hr)
              have HGR := Lib.hid (getD_of hr)
              obtain ⟨u5, g5, o5, hu5, rfl, c5, hr5⟩ := HS.out.row hr
              obtain ⟨A6, c6, rfl, -⟩ := hr5.form
              have q5 := nearv.cell_keep c5 (btrans HB9.out hBl)
              have HVA : Hid (∀ c, c < (gameN l n kk).P → SetOk (n : Int) l (sets.getD c []) ∧ sets.getD c [] ≠ []) := fun c hc => hval.out c (by rw [HP.out]; exact hc)
              have HTP : Hid (t < (gameN l n kk).P) := by show _ < _; rw [← HP.out]; exact hlt
              have HEV := Lib.hid (evc_iff hgood HTP.out HGR.out HVA.out)
              have bl1 : Below wr.heap.size wr (wr.alloc (.cells #[.int .i64 (t : Int)] 3)) := (Below.refl _ _).alloc (Nat.le_refl _) _
              have HT := Lib.hid (Blk.new wr 3 #[.int .i64 (t : Int)])
              have HBT := Lib.hid (btrans hBl bl1)
              have HCF := Lib.hid (containsFuncI_any (.slice A6 r.length c6) r 98 #[.pointer (some ⟨w2.heap.size, 0, none⟩), .pointer (some ⟨w2.heap.size + 1 + 1, 0, none⟩), .pointer (some ⟨wr.heap.size, 0, none⟩)] (fun y => (mvN l n kk t).any fun j => lostB l n kk (fun c => codeL (sets.getD c [])) y.toNat j.toNat) _ (hr5.below (btrans HB9.out HBT.out)) hrl
                { enter := fun _ _ => by kernel_rfl
                  call := fun W hW y hy => by
                    have h1 := HVA.out t HTP.out
                    rw [HGR.out] at h1
                    have h2 := h1.1.2.1 y hy
                    have hWW := btrans HBT.out hW
                    obtain ⟨yy, rfl⟩ : ∃ m : Nat, y = (m : Int) := ⟨y.toNat, by omega⟩
                    rw [Int.toNat_natCast]
                    exact evClo_any n kk t yy w2.heap.size (w2.heap.size + 1 + 1) wr.heap.size (fun c => codeL (sets.getD c [])) _ _ _ _ _ _ us1 l W (HC9.out.below hWW) (HK9.out.below hWW HK9.out.lt) ((HVB.out.below hWW HVB.out.lt).cell 0) (HNU2.out.below hWW) ((HT.out.below hW HT.out.lt).cell 0) HTP.out (by omega) (fun c hc => by
                      have h3 := HVA.out c hc
                      have h4 := code_lt (m := 8) (xs := sets.getD c []) (fun x hx => by have := h3.1.2.1 x hx; omega)
                      omega) })
              have pk := (HVB.out.below hBl HVB.out.lt).cell 0
              clear hr hu5 c5 hr5 bl1 hBl
              have HVL := hvl
              clear hvl
              generalize hany : (r.any fun y => (mvN l n kk t).any fun j => lostB l n kk (fun c => codeL (sets.getD c [])) y.toNat j.toNat) = a at *
              clear hany
              go_wp2_with fail
              refine HCF.out.mono ?_
              rintro e w4 ⟨rfl, b4⟩
              have HB4 := Lib.hid (btrans HBT.out b4)
              cases a with
              | true =>
                have HNN : Hid (okG (EvOk (n : Int) l (kk : Int) sets) = false) := okG_no fun hok => by
                  have := HEV.out.2 ((HOK.out.1 hok).2 t HTP.out)
                  cases this
                clear b4
                go_wp2_with fail
                go_ret2
                exact ⟨retBB2 HNN.out.symm HPF.out.symm, btrans HB9.out HB4.out⟩
              | false =>
                have HV1 : Hid (∀ c, c < t + 1 → EvC l n kk sets c) := fun c hc => by
                  by_cases e : c = t
                  · subst e; exact HEV.out.1 rfl
                  · exact HVL.out c (by omega)
                clear b4
                go_wp2_with fail
                go_roundg g2
                case measure => omega
                case rel => exact ⟨t + 1, by omega, by go_num, HV1, HB4.out⟩
        | succ g2 =>
          have hlt : q < P := by omega
          have hlt' : (q : Int) < (P : Int) := by omega
          obtain ⟨r, hr⟩ : ∃ r, sets[q]? = some r := ⟨_, List.getElem?_eq_getElem (by rw [HLN.out, ← HP.out]; exact hlt)⟩
          have hrl := HRW.out r (List.mem_of_getElem? hr)
          have hgr := getD_of hr
          have HGR := Lib.hid hgr
          obtain ⟨u5, g5, o5, hu5, rfl, c5, hr5⟩ := HS.out.row hr
          obtain ⟨A6, c6, rfl, -⟩ := hr5.form
          have q5 := nearv.cell_keep (nearv.cell_keep c5 HE3.out) (HBZ.out _ hB)
          have HR5 := Lib.hid hr5
          have HFC : Hid (f q = codeL r) := by show _ = _; rw [HFD.out]; show codeL (sets.getD q []) = _; rw [HGR.out]
          clear hr hu5 c5 hr5 hgr
          by_cases hr0 : r.length = 0
          · have hd0 : ((r.length : Int) == 0) = true := by rw [hr0]; rfl
            have HV := Lib.hid (HNO.out q hlt (fun hh => hh.2 (by rw [HGR.out]; exact List.eq_nil_of_length_eq_zero hr0)))
            have hrz : (r.length : Int) = 0 := by omega
            clear hgb hB hrow hvb
            go_wp2_with fail
            go_ret2
            exact ⟨retBB2 HV.out.symm HPF.out.symm, btrans HE3.out (HBZ.out _ HB.out)⟩
          · have hd0 : ((r.length : Int) == 0) = false := beq_eq_false_iff_ne.2 (fun e => hr0 (by omega))
            have HSET := Lib.hid (hasSet_any (n : Int) (.slice A l.length c) (.slice A6 r.length c6) l r wr (H.out.below (btrans HE3.out (HBZ.out _ hB))) hl (HR5.out.below (btrans HE3.out (HBZ.out _ hB))) hrl)
            by_cases hok : SetOk (n : Int) l r
            · rw [okG_yes hok] at HSET
              have HVL : Hid (∀ q', q' < q + 1 → SetOk (n : Int) l (sets.getD q' []) ∧ sets.getD q' [] ≠ []) := fun q' hq' => by
                by_cases e : q' = q
                · subst e; rw [HGR.out]; exact ⟨hok, fun e => hr0 (by rw [e]; rfl)⟩
                · exact hval.out q' (by omega)
              have HRG : Hid (∀ y ∈ r, 0 ≤ y ∧ y < 8) := fun y hy => by have := hok.2.1 y hy; omega
              clear hgb hB hrow hvb hok
              go_wp2_with fail
              refine HSET.out.mono ?_
              rintro e w5 ⟨rfl, b5⟩
              have HB5 : Hid (Below (w2.heap.size + 1) w3 w5) := by
                have := btrans (HBZ.out _ HB.out) b5
                rw [hz3] at this
                exact this
              have hrow5 := own_below HR.out b5
              have hvb5 := HVB.out.below b5 HVB.out.lt
              have HBO := Lib.hid (bitsOf_any (.slice A6 r.length c6) r w5.drew (show Ints _ _ _ from HR5.out.below (btrans HE3.out (HBZ.out _ HB5.out)).drew) hrl HRG.out)
              have hll := sfR_len f (P := P) (c := q) (by omega)
              obtain ⟨u0, hu0⟩ : ∃ u, (sfR f P q)[q]? = some u := ⟨_, List.getElem?_eq_getElem (by omega)⟩
              have f0 := hrow5.cellAt q (by omega)
              rw [cellsU_at hu0] at f0
              have z0 := hrow5.frozenAt q
              have c9 := hvb5.cell 0
              have HST := Lib.hid (hrow5.stored q (.int .u64 ((codeL r : Nat) : Int)))
              have HVX := Lib.hid (hvb5.far (p := ⟨w2.heap.size + 1, q, none⟩) (by show w2.heap.size + 1 + 1 ≠ (w2.heap.size + 1); omega) (.int .u64 ((codeL r : Nat) : Int)))
              have HBX := Lib.hid (HB5.out.setCell (p := ⟨w2.heap.size + 1, q, none⟩) (Nat.le_refl _) (.int .u64 ((codeL r : Nat) : Int)))
              have HKS : Hid ((w5.setCell ⟨w2.heap.size + 1, q, none⟩ (.int .u64 ((codeL r : Nat) : Int))).cell? ⟨w2.heap.size + 1 + 1, 0, none⟩ = some (.slice (some ⟨w2.heap.size + 1, 0, none⟩) P P)) := HVX.out.cell 0
              have HSS := Lib.hid (sfR_set (f := f) hlt)
              clear b5 hrow5 hvb5 hu0 hll p0 p1 q5
              go_wp2_with fail
              refine wp_region_held_drew (S := (fun w' : World => w'.cell? ⟨w2.heap.size + 1 + 1, 0, none⟩ = some (.slice (some ⟨w2.heap.size + 1, 0, none⟩) P P))) (by kernel_rfl) (by (try dsimp only); simp [*]) (fun hHeld => ?_)
              change wpAnyH _ _ _ _ _ _ #[false, false, false, false, false, false] _ _
              refine wpAnyH_take (i := 0) (oi := ⟨some 51, _, _, _, _, _⟩) (v := ?_) rfl (by kernel_rfl) (by kernel_rfl) (by kernel_rfl) (fun _ _ _ h => h) (Or.inl ⟨by rfl, ?_⟩) (by assumption) ?_
              rotate_left
              · (intro w hSw; (try dsimp only at hSw); go_simp; (try (with_reducible rfl)))
              try simp only [Act.put, List.setIfInBounds_toArray, List.set_cons_zero, List.set_cons_succ]
              refine wpAnyH_take (i := 1) (oi := ⟨some 52, _, _, _, _, _⟩) (v := ?_) rfl (by kernel_rfl) (by kernel_rfl) (by kernel_rfl) (fun _ _ _ h => h) (Or.inl ⟨by rfl, ?_⟩) (by assumption) ?_
              rotate_left
              · (intro w hSw; (try dsimp only at hSw); go_simp; (try (with_reducible rfl)))
              try simp only [Act.put, List.setIfInBounds_toArray, List.set_cons_zero, List.set_cons_succ]
              refine wpAnyH_take (i := 2) (oi := ⟨some 53, _, _, _, _, _⟩) (v := ?_) rfl (by kernel_rfl) (by kernel_rfl) (by kernel_rfl) (fun _ _ _ h => h) (Or.inl ⟨by rfl, ?_⟩) (by assumption) ?_
              rotate_left
              · (intro w hSw; (try dsimp only at hSw); go_simp; (try (with_reducible rfl)))
              try simp only [Act.put, List.setIfInBounds_toArray, List.set_cons_zero, List.set_cons_succ]
              refine wpAnyH_ready (rs := [3]) (by kernel_rfl) (by simp) ?_
              refine AllReadyH.cons (o := ⟨some 54, _, _, _, _, _⟩) rfl (fun K hK => ?_) AllReadyH.nil
              go_simp
              refine HBO.out.mono ?_; rintro e w' ⟨rfl, rfl⟩
              go_wp2_with fail
              refine hK.out _ _ (by (try dsimp only); simp [*]) (fun hHeld => ?_)
              clear hK K
              try simp only [List.setIfInBounds_toArray, List.set_cons_zero, List.set_cons_succ]
              refine wpAnyH_take (i := 4) (oi := ⟨some 55, _, _, _, _, _⟩) (v := ?_) rfl (by kernel_rfl) (by kernel_rfl) (by kernel_rfl) (fun _ _ _ h => h) (Or.inl ⟨by rfl, ?_⟩) (by assumption) ?_
              rotate_left
              · (intro w hSw; (try dsimp only at hSw); go_simp; (try (with_reducible rfl)))
              try simp only [Act.put, List.setIfInBounds_toArray, List.set_cons_zero, List.set_cons_succ]
              refine wpAnyH_ready (rs := [5]) (by kernel_rfl) (by simp) ?_
              refine AllReadyH.cons rfl (fun K hK => ?_) AllReadyH.nil
              go_simp
              refine hK.out _ _ (HKS.out) (fun hHeld => ?_)
              clear hK K
              refine wpAnyH_done (by kernel_rfl) ?_ _
              clear hHeld f0 z0 c9
              go_wp2_with fail
              go_roundg g2
              case measure => omega
              case rel =>
                have h_ := HST.out.1
                rw [cellsU_set, ← HFC.out, HSS.out] at h_
                have h8 := HVX.out
                have h7 := HBX.out
                rw [← HFC.out] at h7 h8 ⊢
                exact ⟨q + 1, by omega, by go_num, HVL, h_, h8, h7.drew⟩
            · rw [okG_no hok] at HSET
              have HV := Lib.hid (HNO.out q hlt (fun hh => hok (by rw [← HGR.out]; exact hh.1)))
              clear hgb hB hrow hvb hok
              go_wp2_with fail
              refine HSET.out.mono ?_
              rintro e w5 ⟨rfl, b5⟩
              go_wp2_with fail
              go_ret2
              exact ⟨retBB2 HV.out.symm HPF.out.symm, btrans HE3.out (btrans (HBZ.out _ HB.out) b5)⟩
    · have hd : ((sets.length : Int) == ((gameN l n kk).P : Int)) = false := by simpa using (fun e => hlen (by omega) : ¬ (sets.length : Int) = ((gameN l n kk).P : Int))
      have HV : Hid (okG (EvOk (n : Int) l (kk : Int) sets) = false) := okG_no fun hh => hlen (HOK.out.1 hh).1
      clear hlen
      go_wp2_with fail
      go_ret2
      exact ⟨retBB2 HV.out.symm HPF.out.symm, HE3.out⟩
  · have HPF : Hid (okG (cops.FieldP s l k) = false) := okG_no hf
    have HV : Hid (okG (EvOk s l k sets) = false) := okG_no fun hh => hf hh.1
    have HHU := Lib.hid (huntIn_no s k (.slice A l.length c) l _ (h.below b0) hl hf)
    clear h h2 hrw hf b0 g0
    go_enter Try.func46, Try.ntmps46
    go_wp2_with fail
    refine HHU.out.mono ?_
    rintro e w2 ⟨rfl, b2⟩
    have HE2 := Lib.hid (btrans HB0.out b2)
    clear b2 p0 p1
    go_wp2_with fail
    go_ret2
    exact ⟨retBB2 HV.out.symm HPF.out.symm, HE2.out.alloc HE2.out.size _⟩
end Go.Proofs.Ytphlpipbhaiijaa.evas

/- The laws' helpers over arguments of type [][]int: szIntS, szIntSS, toIntSS. -/
namespace Go.Proofs.Ytphlpipbhaiijaa.gridl
open Go.RowKit P2 words ints grid gridr owns
set_option linter.unusedVariables false

def szS (left m : Int) : Int := if left - m < 0 then -1 else left - m
/-- what is left of a budget behind a slice of slices, -1 if it is used up -/
def szSS (left : Int) (rows : List (List Int)) : Int := if left - (rows.length : Int) < 0 then -1 else szS (left - (rows.length : Int)) (tot rows : Int)
set_option maxHeartbeats 400000 in
theorem szIntS_any (v : Value) (l : List Int) (left : Int) (w : World) (h : Ints w v l) (h0 : 0 ≤ left) (h1 : left ≤ 1048576) (hl : (l.length : Int) ≤ 9223372036854775807) :
    Calls Try.prog 89 #[v, .int .i64 left] w fun e w' => e = .returned (.int .i64 (szS left (l.length : Int))) ∧ w = w' := by
  obtain ⟨A, c, rfl, -⟩ := h.form
  clear h
  have hw : IntKind.i64.wrap (left - (l.length : Int)) = left - (l.length : Int) := IntWalk.i64_in _ (by omega)
  by_cases hn : left - (l.length : Int) < 0
  · have HV : Hid (szS left (l.length : Int) = -1) := by show _ = _; unfold szS; rw [if_pos hn]
    go_enter Try.func89, Try.ntmps89
    go_wp2_with fail
    go_ret
    exact ⟨ret_int HV.out.symm, rfl⟩
  · have HV : Hid (szS left (l.length : Int) = left - (l.length : Int)) := by show _ = _; unfold szS; rw [if_neg hn]
    go_enter Try.func89, Try.ntmps89
    go_wp2_with fail
    go_ret
    exact ⟨ret_int HV.out.symm, rfl⟩
set_option maxHeartbeats 1000000 in
theorem szIntSS_any (v : Value) (us : List Value) (rows : List (List Int)) (left : Int) (w : World) (h : ReadsG w v us rows) (h0 : 0 ≤ left) (h1 : left ≤ 1048576) (hl : (rows.length : Int) ≤ 9223372036854775807) (hr : ∀ r ∈ rows, (r.length : Int) ≤ 9223372036854775807) :
    Calls Try.prog 43 #[v, .int .i64 left] w fun e w' => e = .returned (.int .i64 (szSS left rows)) ∧ w = w' := by
  obtain ⟨A, c, rfl, -⟩ := h.1
  have H := Lib.hid h
  have HR := Lib.hid hr
  clear h hr
  have hw : IntKind.i64.wrap (left - (rows.length : Int)) = left - (rows.length : Int) := IntWalk.i64_in _ (by omega)
  by_cases hn : left - (rows.length : Int) < 0
  · have HV : Hid (szSS left rows = -1) := by show _ = _; unfold szSS; rw [if_pos hn]
    go_enter Try.func43, Try.ntmps43
    go_wp2_with fail
    go_ret
    exact ⟨ret_int HV.out.symm, rfl⟩
  · have HV : Hid (szSS left rows = szS (left - (rows.length : Int)) (tot rows : Int)) := by show _ = _; unfold szSS; rw [if_neg hn]
    go_enter Try.func43, Try.ntmps43
    go_wp2_with fail
    go_loopg [1, 5] rows.length (fun g lv iv wr => ∃ (k : Nat) (b : Int), k + g = rows.length ∧ iv = .int .i64 (k : Int) ∧ lv = .int .i64 b ∧ Hid (b = left - (rows.length : Int) - (tot (rows.take k) : Int) ∧ 0 ≤ b) ∧ w = wr)
    case atStart => exact ⟨0, _, by omega, rfl, rfl, (by show _ ∧ _; simp [tot]; omega), rfl⟩
    case round =>
      obtain ⟨k, b, hkg, rfl, rfl, hb, rfl⟩ := hrel
      cases gk with
      | zero =>
        obtain rfl : k = rows.length := by omega
        have HB : Hid (szSS left rows = b) := by
          show _ = _
          have := hb.out
          rw [HV.out]
          unfold szS
          rw [List.take_length] at this
          rw [if_neg (by omega)]; omega
        go_wp2_with fail
        go_ret
        exact ⟨ret_int HB.out.symm, rfl⟩
      | succ g2 =>
        have hlt : k < rows.length := by omega
        have hlt' : (k : Int) < (rows.length : Int) := by omega
        obtain ⟨r, hrk⟩ : ∃ r, rows[k]? = some r := ⟨_, List.getElem?_eq_getElem hlt⟩
        obtain ⟨u, g, o, hu, rfl, c0, hru⟩ := H.out.row hrk
        have hrl := HR.out r (List.mem_of_getElem? hrk)
        have ht := tot_succ hrk
        have hle := tot_le rows (k + 1)
        have hb0 := hb.out
        have HSZ := Lib.hid (szIntS_any u r b w hru (by omega) (by omega) hrl)
        by_cases hneg : b - (r.length : Int) < 0
        · have HS1 : Hid (szS b (r.length : Int) = -1) := by show _ = _; unfold szS; rw [if_pos hneg]
          have HB : Hid (szSS left rows = -1) := by
            show _ = _
            rw [HV.out]
            unfold szS
            rw [if_pos (by omega)]
          rw [HS1.out] at HSZ
          clear hu hru hrk ht hle hb0
          go_wp2_with fail
          refine HSZ.out.mono ?_
          rintro e w' ⟨rfl, rfl⟩
          go_wp2_with fail
          go_ret
          exact ⟨ret_int HB.out.symm, rfl⟩
        · have HS1 : Hid (szS b (r.length : Int) = b - (r.length : Int)) := by show _ = _; unfold szS; rw [if_neg hneg]
          have HB : Hid (b - (r.length : Int) = left - (rows.length : Int) - (tot (rows.take (k + 1)) : Int) ∧ 0 ≤ b - (r.length : Int)) := by
            show _ ∧ _
            omega
          rw [HS1.out] at HSZ
          clear hu hru hrk ht hle hb0
          generalize b - (r.length : Int) = b2 at *
          go_wp2_with fail
          refine HSZ.out.mono ?_
          rintro e w' ⟨rfl, rfl⟩
          have hb2 : ¬ b2 < 0 := by have := HB.out; omega
          go_wp2_with fail
          go_roundg g2
          case measure => omega
          case rel => exact ⟨k + 1, b2, by omega, by go_num, rfl, HB, rfl⟩
/-- the budget is enough -/
theorem szIntSS_yes (v : Value) (us : List Value) (rows : List (List Int)) (left : Int) (w : World) (h : ReadsG w v us rows) (h0 : 0 ≤ left) (h1 : left ≤ 1048576) (hl : (rows.length : Int) + (tot rows : Int) ≤ left) :
    Calls Try.prog 43 #[v, .int .i64 left] w fun e w' => e = .returned (.int .i64 (left - (rows.length : Int) - (tot rows : Int))) ∧ Below w.heap.size w w' :=
  (szIntSS_any v us rows left w h h0 h1 (by omega) (fun r hr => by
    obtain ⟨k, hk⟩ := List.getElem?_of_mem hr
    have := tot_succ hk
    have := tot_le rows (k + 1)
    omega)).mono fun _ _ ⟨e, hw⟩ => ⟨by rw [e]; unfold szSS szS; rw [if_neg (by omega), if_neg (by omega)], hw ▸ Below.refl _ _⟩
/-- it is not -/
theorem szIntSS_no (v : Value) (us : List Value) (rows : List (List Int)) (left : Int) (w : World) (h : ReadsG w v us rows) (h0 : 0 ≤ left) (h1 : left ≤ 1048576) (hl : (rows.length : Int) ≤ 9223372036854775807) (hr : ∀ r ∈ rows, (r.length : Int) ≤ 9223372036854775807) (hn : left < (rows.length : Int) + (tot rows : Int)) :
    Calls Try.prog 43 #[v, .int .i64 left] w fun e w' => e = .returned (.int .i64 (-1)) ∧ Below w.heap.size w w' :=
  (szIntSS_any v us rows left w h h0 h1 hl hr).mono fun _ _ ⟨e, hw⟩ => ⟨by
    rw [e]; unfold szSS szS
    by_cases h2 : left - (rows.length : Int) < 0
    · rw [if_pos h2]
    · rw [if_neg h2, if_pos (by omega)], hw ▸ Below.refl _ _⟩
/-- a copy in the making -/
def cpR (rows : List (List Int)) (k : Nat) : List (List Int) := rows.take k ++ List.replicate (rows.length - k) []
theorem cpR_len (rows : List (List Int)) {k : Nat} (h : k ≤ rows.length) : (cpR rows k).length = rows.length := by simp [cpR]; omega
theorem cpR_zero (rows : List (List Int)) : cpR rows 0 = List.replicate rows.length [] := by simp [cpR]
theorem cpR_all (rows : List (List Int)) : cpR rows rows.length = rows := by simp [cpR]
theorem cpR_succ {rows : List (List Int)} {k : Nat} {r : List Int} (h : rows[k]? = some r) : (cpR rows k).set k r = cpR rows (k + 1) := by
  have hk := (List.getElem?_eq_some_iff.1 h).1
  unfold cpR
  rw [show rows.length - k = (rows.length - (k + 1)) + 1 from by omega, List.replicate_succ, List.set_append_right _ _ (by rw [List.length_take]; omega), List.take_add_one, h]
  have e : k - (List.take k rows).length = 0 := by simp; omega
  rw [e, List.set_cons_zero, List.append_assoc]
  rfl
set_option maxHeartbeats 2000000 in
set_option maxRecDepth 100000 in
theorem toIntSS_any (v : Value) (us : List Value) (rows : List (List Int)) (w : World) (h : ReadsG w v us rows) (hl : tot rows ≤ 1048576) (hn : rows.length ≤ 1048576) :
    Calls Try.prog 45 #[v] w fun e w' => ∃ A c us', e = .returned (.slice A rows.length c) ∧ OwnG w' w.heap.size (.slice A rows.length c) us' rows ∧ Below w.heap.size w w' := by
  obtain ⟨A, c, rfl, -⟩ := h.1
  obtain ⟨i1, hi1, hy0, hy1, hy2⟩ := info_parts infoRow
  have hmk := fun (W : World) => run_make_rowN (P := Try.prog) 44 25 i1 (.slice none 0 0) Try.underlying44 hi1 hy0 .i64 .i64 rows.length rows.length (Nat.le_refl _) (by rw [hy2]; omega) (by omega) W
  rw [hy1] at hmk
  simp only [Nat.mul_one] at hmk
  have H := Lib.hid h
  have HM := Lib.hid (OwnG.made w rows.length (by unfold maxLen; omega))
  rw [Nat.mul_one, ← cpR_zero] at HM
  have HE := Lib.hid ((Below.refl w.heap.size w).alloc (Nat.le_refl _) (.cells (madeCells #[.slice none 0 0] rows.length) 25))
  clear h
  go_enter Try.func45, Try.ntmps45
  go_wp2_with fail
  clear hmk
  go_loopg [4] rows.length (fun g iv wr => ∃ (k : Nat) (vs : List Value), k + g = rows.length ∧ iv = .int .i64 (k : Int) ∧ OwnG wr w.heap.size (.slice (some ⟨w.heap.size, 0, none⟩) rows.length rows.length) vs (cpR rows k) ∧ Below w.heap.size w wr)
  case atStart => exact ⟨0, _, by omega, rfl, HM.out, HE.out⟩
  case round =>
    clear HM HE
    obtain ⟨k, vs, hkg, rfl, hG, hB⟩ := hrel
    cases gk with
    | zero =>
      obtain rfl : k = rows.length := by omega
      rw [cpR_all] at hG
      have HG := Lib.hid hG
      have HB := Lib.hid hB
      clear hG hB
      go_wp2_with fail
      go_ret
      exact ⟨_, _, _, rfl, HG.out, HB.out⟩
    | succ g2 =>
      have hlt : k < rows.length := by omega
      have hlt' : (k : Int) < (rows.length : Int) := by omega
      obtain ⟨r, hr⟩ : ∃ r, rows[k]? = some r := ⟨_, List.getElem?_eq_getElem hlt⟩
      obtain ⟨u, g, o, hu, rfl, c0, hru⟩ := (H.out.below hB).row hr
      obtain ⟨Ar, cr, rfl, -⟩ := hru.form
      have hrl : r.length ≤ 1048576 := by have := tot_succ hr; have := tot_le rows (k + 1); omega
      have HT := Lib.hid (fun (W : World) (hW : Below wr.heap.size wr W) => toIntS_any (.slice Ar r.length cr) r W (hru.below hW) hrl)
      have HT0 := Lib.hid (HT.out wr (Below.refl _ _))
      have HRS := Lib.hid (cpR_succ hr)
      have HRL := Lib.hid (cpR_len rows (k := k) (by omega))
      have HG := Lib.hid hG
      have HB := Lib.hid hB
      have HC := Lib.hid c0
      clear hu hru hr hrl hG hB
      go_wp2_with fail
      refine HT0.out.mono ?_
      rintro e w4 ⟨A5, c5, rfl, o5, b5⟩
      have hG4 := HG.out.below b5
      have h1 := hG4.1
      rw [HRL.out] at h1
      have hul := hG4.len
      rw [HRL.out] at hul
      obtain ⟨u0, hu0⟩ : ∃ u, vs[k]? = some u := ⟨_, List.getElem?_eq_getElem (by omega)⟩
      have f0 := h1.cellAt k (by omega)
      rw [hu0] at f0
      have z0 := h1.frozenAt k
      have hgr := h1.lt w.heap.size rfl
      have HS : Hid (OwnG (w4.setCell ⟨w.heap.size, k, none⟩ (.slice A5 r.length c5)) w.heap.size (.slice (some ⟨w.heap.size, 0, none⟩) rows.length rows.length) (vs.set k (.slice A5 r.length c5)) (cpR rows (k + 1))) := by
        have h9 : OwnG w4 w.heap.size (.slice (some ⟨w.heap.size, 0, none⟩) (cpR rows k).length rows.length) vs (cpR rows k) := by rw [HRL.out]; exact hG4
        have hfr := OwnG.fresh HG.out (own_base o5 (Nat.le_refl _))
        have := OwnG.store h9 (by rw [HRL.out]; exact hlt) (own_base o5 (by have := HB.out.size; omega)) (fun i x b _ hx hb => hfr i x b hx hb)
        rw [HRS.out, HRL.out] at this
        exact this
      have HB5 := Lib.hid ((btrans HB.out b5).setCell (p := ⟨w.heap.size, k, none⟩) hgr.1 (.slice A5 r.length c5))
      clear hG4 h1 hul b5 o5 hu0 c0
      go_wp2_with fail
      go_roundg g2
      case measure => omega
      case rel => exact ⟨k + 1, _, by omega, by go_num, HS.out, HB5.out⟩
end Go.Proofs.Ytphlpipbhaiijaa.gridl

/- Arguments of the laws, opened: a Graph as it came in, a slice of integers as it came in. -/
namespace Go.Proofs.Ytphlpipbhaiijaa.opens
open Go.RowKit Go.Joins Go.ChangeShapes Go.WideShapes Go.Deep P2 words

theorem addr_add (g o j : Nat) : (⟨g, o, none⟩ : Addr).add j = ⟨g, o + j, none⟩ := by unfold Addr.add; split <;> simp_all
theorem add_of_add (a : Addr) (i j : Nat) : (a.add i).add j = a.add (i + j) := by
  unfold Addr.add
  by_cases hi : i = 0 <;> by_cases hj : j = 0 <;> simp [hi, hj, Nat.add_assoc]

/-- what is told of a Graph that came in -/
def IsGr (w : World) (s : Int) (v : Value) (l : List Ed) : Prop :=
  Edges w v l ∧ l.length ≤ maxLen ∧ -9223372036854775808 ≤ s ∧ s ≤ 9223372036854775807

theorem bounds64 {n : Int} (h : (Lit.int .i64 n).wf = true) : -9223372036854775808 ≤ n ∧ n ≤ 9223372036854775807 := by
  simp [Lit.wf, IntKind.min, IntKind.max, IntKind.signed, IntKind.bits] at h
  omega

/-- what is told of a slice of integers that came in -/
def IsIn (w : World) (v : Value) (l : List Int) : Prop := Ints w v l ∧ l.length ≤ maxLen ∧ ∀ x ∈ l, -9223372036854775808 ≤ x ∧ x ≤ 9223372036854775807

section
variable {H : Type} {enc : TypeId × Value → H} {w : World} {spare : Nat → Bool} {held : Bool}
theorem open_edges {fuel : Nat} {v : Value} {x : DataW H × List MemPlace} (h : DataW.trod enc Try.prog w 0 spare held fuel 22 [v] = some x) :
    ∃ l : List Ed, Edges w v l ∧ l.length ≤ maxLen := by
  rcases open_slice Try.underlying22 h with ⟨hv, _⟩ | ⟨a, len, cap, m, n, D, Pl, hv, _, hl, hm, hmm, _, hi⟩
  · obtain rfl : v = .slice none 0 0 := by simpa using hv
    exact ⟨[], Reads.nil _ _, Nat.zero_le _⟩
  · obtain rfl : v = .slice (some a) len cap := by simpa using hv
    have hlm : len ≤ m := by rw [hmm]; split <;> omega
    have hC : Try.prog.cellsOf 104 = 2 := by kernel_rfl
    have hC1 : Try.prog.cellsOf 3 = 1 := by kernel_rfl
    rw [hC] at hi
    have key : ∀ i, i < len → ∃ e : Ed, w.cell? (a.add (i * 2)) = some (.int .i64 e.1) ∧ w.cell? (a.add (i * 2 + 1)) = some (.int .i64 e.2) := fun i hil => by
      obtain ⟨cs', hc, ht⟩ := hi i (by omega)
      obtain ⟨xs, m', _, _, _, hxl, he⟩ := DataW.trod_array Try.underlying104 ht
      obtain ⟨_, hcl, hat⟩ := World.cells?_some hc
      rw [hC1] at he
      match cs', hcl with
      | [c0, c1], _ =>
        match xs, hxl with
        | [y0, y1], _ =>
          have e0 : DataW.trod enc Try.prog w 0 spare held m' 3 [c0] = some y0 := he 0 (by decide)
          have e1 : DataW.trod enc Try.prog w 0 spare held m' 3 [c1] = some y1 := he 1 (by decide)
          obtain ⟨n0, h0, _, _⟩ := DataW.trod_int Try.underlying3 e0
          obtain ⟨n1, h1, _, _⟩ := DataW.trod_int Try.underlying3 e1
          obtain rfl : c0 = .int .i64 n0 := by simpa using h0
          obtain rfl : c1 = .int .i64 n1 := by simpa using h1
          have a0 := hat 0 (by decide)
          have a1 := hat 1 (by decide)
          rw [add_of_add] at a0 a1
          exact ⟨(n0, n1), by simpa using a0, by simpa using a1⟩
    obtain ⟨f, hf⟩ := choose_lt (α := Ed) key
    refine ⟨(List.range len).map f, ⟨some a, cap, by simp, fun hn => ?_⟩, by simp; omega⟩
    simp only [List.length_map, List.length_range] at hn ⊢
    obtain ⟨b, off, spot⟩ := a
    have hc0 := (hf 0 hn).1
    have hspot : spot = none := by simpa [Addr.add] using World.cell?_spot hc0
    subst hspot
    refine ⟨b, off, rfl, hl, fun j u hu => ?_⟩
    have hjl : j < len * 2 := by
      have := (List.getElem?_eq_some_iff.1 hu).1
      rw [cellsE_len] at this; simpa using this
    obtain ⟨k, hk⟩ : ∃ k, k = j / 2 := ⟨_, rfl⟩
    have hkl : k < len := by omega
    have hkf : ((List.range len).map f)[k]? = some (f k) := by simp [hkl]
    have hck := cellsE_at hkf
    have hcl := hf k hkl
    rw [addr_add, addr_add] at hcl
    rcases Nat.mod_two_eq_zero_or_one j with h0 | h0
    · obtain rfl : j = k * 2 := by omega
      rw [hck.1] at hu
      rw [hcl.1, ← hu]
    · obtain rfl : j = k * 2 + 1 := by omega
      rw [hck.2] at hu
      rw [hcl.2, ← hu]

set_option maxRecDepth 100000 in
theorem open_graph {r : Reach} {b0 : Nat} {v : Value} {d : DataW H} {p : List MemPlace} (hv : Value.okWide Try.prog w r b0 24 v)
    (h : DataW.Trod enc Try.prog w 0 spare held 24 v d p) : ∃ s u l, v = .agg #[.int .i64 s, u] ∧ IsGr w s u l := by
  obtain ⟨c0, c1, y0, y1, m, rfl, _, _, h0, h1⟩ := open_agg2 Try.underlying24 (by kernel_rfl) (by kernel_rfl) hv h
  obtain ⟨n0, k0, _, w0⟩ := DataW.trod_int Try.underlying3 h0
  obtain rfl : c0 = .int .i64 n0 := by simpa using k0
  obtain ⟨l, he, hl⟩ := open_edges h1
  exact ⟨n0, c1, l, rfl, he, hl, bounds64 w0⟩

set_option maxRecDepth 100000 in
theorem open_intsl {r : Reach} {b0 : Nat} {v : Value} {d : DataW H} {p : List MemPlace} (hv : Value.okWide Try.prog w r b0 25 v)
    (h : DataW.Trod enc Try.prog w 0 spare held 25 v d p) : ∃ u l, v = u ∧ IsIn w u l := by
  obtain ⟨A, len, cap, rfl⟩ := okWide_slice Try.underlying25 hv
  obtain ⟨fuel, hf⟩ := h
  simp only [Value.cells] at hf
  rcases open_slice Try.underlying25 hf with ⟨hv, _⟩ | ⟨a, len', cap', m, n, D, Pl, hv, _, hl, hm, hmm, _, hi⟩
  · have e : Value.slice A len cap = .slice none 0 0 := by simpa using hv
    rw [e]
    exact ⟨_, [], rfl, Reads.nil _ _, Nat.zero_le _, fun x hx => by cases hx⟩
  · have e : Value.slice A len cap = .slice (some a) len' cap' := by simpa using hv
    rw [e]
    have hlm : len' ≤ m := by rw [hmm]; split <;> omega
    have hC1 : Try.prog.cellsOf 3 = 1 := by kernel_rfl
    rw [hC1] at hi
    have key : ∀ i, i < len' → ∃ x : Int, w.cell? (a.add i) = some (.int .i64 x) ∧ (Lit.int .i64 x).wf = true := fun i hil => by
      obtain ⟨cs', hc, ht⟩ := hi i (by omega)
      obtain ⟨_, hcl, hat⟩ := World.cells?_some hc
      match cs', hcl with
      | [c0], _ =>
        obtain ⟨n0, h0, _, hw⟩ := DataW.trod_int Try.underlying3 ht
        obtain rfl : c0 = .int .i64 n0 := by simpa using h0
        have a0 := hat 0 (by decide)
        rw [add_of_add, Nat.mul_one] at a0
        exact ⟨n0, by simpa using a0, hw⟩
    obtain ⟨f, hf⟩ := choose_lt (α := Int) key
    refine ⟨_, (List.range len').map f, rfl, ⟨some a, cap', by simp, fun hn => ?_⟩, by simp; omega, fun x hx => ?_⟩
    · simp only [List.length_map, List.length_range] at hn ⊢
      obtain ⟨b, off, spot⟩ := a
      have hc0 := (hf 0 hn).1
      have hspot : spot = none := by simpa [Addr.add] using World.cell?_spot hc0
      subst hspot
      refine ⟨b, off, rfl, hl, fun j u hu => ?_⟩
      have hjl : j < len' := by
        have := (List.getElem?_eq_some_iff.1 hu).1
        rw [cellsI_len] at this; simpa using this
      have hcl := (hf j hjl).1
      rw [addr_add] at hcl
      have hkf : ((List.range len').map f)[j]? = some (f j) := by simp [hjl]
      rw [cellsI_at hkf] at hu
      rw [hcl, ← hu]
    · simp only [List.mem_map, List.mem_range] at hx
      obtain ⟨j, hj, rfl⟩ := hx
      exact bounds64 (hf j hj).2
end
end Go.Proofs.Ytphlpipbhaiijaa.opens

/- An argument of type [][]int, opened: rows of integers as they came in. -/
namespace Go.Proofs.Ytphlpipbhaiijaa.opens
open Go.RowKit Go.Joins Go.ChangeShapes Go.WideShapes Go.Deep P2 words gridr

/-- what is told of a slice of slices of integers that came in -/
def IsRows (w : World) (v : Value) (us : List Value) (rows : List (List Int)) : Prop :=
  ReadsG w v us rows ∧ rows.length ≤ maxLen ∧ ∀ r ∈ rows, r.length ≤ maxLen ∧ ∀ x ∈ r, -9223372036854775808 ≤ x ∧ x ≤ 9223372036854775807

section
variable {H : Type} {enc : TypeId × Value → H} {w : World} {spare : Nat → Bool} {held : Bool}
theorem open_intsv {fuel : Nat} {v : Value} {x : DataW H × List MemPlace} (h : DataW.trod enc Try.prog w 0 spare held fuel 25 [v] = some x) : ∃ l, IsIn w v l := by
  rcases open_slice Try.underlying25 h with ⟨hv, _⟩ | ⟨a, len', cap', m, n, D, Pl, hv, _, hl, hm, hmm, _, hi⟩
  · obtain rfl : v = .slice none 0 0 := by simpa using hv
    exact ⟨[], Reads.nil _ _, Nat.zero_le _, fun x hx => by cases hx⟩
  · obtain rfl : v = .slice (some a) len' cap' := by simpa using hv
    have hlm : len' ≤ m := by rw [hmm]; split <;> omega
    have hC1 : Try.prog.cellsOf 3 = 1 := by kernel_rfl
    rw [hC1] at hi
    have key : ∀ i, i < len' → ∃ x : Int, w.cell? (a.add i) = some (.int .i64 x) ∧ (Lit.int .i64 x).wf = true := fun i hil => by
      obtain ⟨cs', hc, ht⟩ := hi i (by omega)
      obtain ⟨_, hcl, hat⟩ := World.cells?_some hc
      match cs', hcl with
      | [c0], _ =>
        obtain ⟨n0, h0, _, hw⟩ := DataW.trod_int Try.underlying3 ht
        obtain rfl : c0 = .int .i64 n0 := by simpa using h0
        have a0 := hat 0 (by decide)
        rw [add_of_add, Nat.mul_one] at a0
        exact ⟨n0, by simpa using a0, hw⟩
    obtain ⟨f, hf⟩ := choose_lt (α := Int) key
    refine ⟨(List.range len').map f, ⟨some a, cap', by simp, fun hn => ?_⟩, by simp; omega, fun x hx => ?_⟩
    · simp only [List.length_map, List.length_range] at hn ⊢
      obtain ⟨b, off, spot⟩ := a
      have hc0 := (hf 0 hn).1
      have hspot : spot = none := by simpa [Addr.add] using World.cell?_spot hc0
      subst hspot
      refine ⟨b, off, rfl, hl, fun j u hu => ?_⟩
      have hjl : j < len' := by
        have := (List.getElem?_eq_some_iff.1 hu).1
        rw [cellsI_len] at this; simpa using this
      have hcl := (hf j hjl).1
      rw [addr_add] at hcl
      have hkf : ((List.range len').map f)[j]? = some (f j) := by simp [hjl]
      rw [cellsI_at hkf] at hu
      rw [hcl, ← hu]
    · simp only [List.mem_map, List.mem_range] at hx
      obtain ⟨j, hj, rfl⟩ := hx
      exact bounds64 (hf j hj).2

set_option maxRecDepth 100000 in
theorem open_rowsl {r : Reach} {b0 : Nat} {v : Value} {d : DataW H} {p : List MemPlace} (hv : Value.okWide Try.prog w r b0 44 v)
    (h : DataW.Trod enc Try.prog w 0 spare held 44 v d p) : ∃ u us rows, v = u ∧ IsRows w u us rows := by
  obtain ⟨A, len, cap, rfl⟩ := okWide_slice Try.underlying44 hv
  obtain ⟨fuel, hf⟩ := h
  simp only [Value.cells] at hf
  rcases open_slice Try.underlying44 hf with ⟨hv, _⟩ | ⟨a, len', cap', m, n, D, Pl, hv, _, hl, hm, hmm, _, hi⟩
  · have e : Value.slice A len cap = .slice none 0 0 := by simpa using hv
    rw [e]
    exact ⟨_, [], [], rfl, ⟨Reads.nil _ _, rfl, fun i u r hu hr => by simp at hu⟩, Nat.zero_le _, fun x hx => by cases hx⟩
  · have e : Value.slice A len cap = .slice (some a) len' cap' := by simpa using hv
    rw [e]
    have hlm : len' ≤ m := by rw [hmm]; split <;> omega
    have hC1 : Try.prog.cellsOf 25 = 1 := by kernel_rfl
    rw [hC1] at hi
    have key : ∀ i, i < len' → ∃ y : Value × List Int, w.cell? (a.add i) = some y.1 ∧ IsIn w y.1 y.2 := fun i hil => by
      obtain ⟨cs', hc, ht⟩ := hi i (by omega)
      obtain ⟨_, hcl, hat⟩ := World.cells?_some hc
      match cs', hcl with
      | [c0], _ =>
        obtain ⟨l, hl2⟩ := open_intsv ht
        have a0 := hat 0 (by decide)
        rw [add_of_add, Nat.mul_one] at a0
        exact ⟨(c0, l), by simpa using a0, hl2⟩
    obtain ⟨f, hf⟩ := choose_lt (α := Value × List Int) key
    refine ⟨_, (List.range len').map (fun i => (f i).1), (List.range len').map (fun i => (f i).2), rfl, ⟨⟨some a, cap', by simp, fun hn => ?_⟩, by simp, fun i u r hu hr => ?_⟩, by simp; omega, fun x hx => ?_⟩
    · simp only [List.length_map, List.length_range] at hn ⊢
      obtain ⟨b, off, spot⟩ := a
      have hc0 := (hf 0 hn).1
      have hspot : spot = none := by simpa [Addr.add] using World.cell?_spot hc0
      subst hspot
      refine ⟨b, off, rfl, hl, fun j u hu => ?_⟩
      have hjl : j < len' := by
        have := (List.getElem?_eq_some_iff.1 hu).1
        simpa using this
      have hcl := (hf j hjl).1
      rw [addr_add] at hcl
      have hkf : ((List.range len').map (fun i => (f i).1))[j]? = some (f j).1 := by simp [hjl]
      rw [hkf] at hu
      rw [hcl, ← hu]
    · have hil : i < len' := by
        have := (List.getElem?_eq_some_iff.1 hu).1
        simpa using this
      have h1 : ((List.range len').map (fun i => (f i).1))[i]? = some (f i).1 := by simp [hil]
      have h2 : ((List.range len').map (fun i => (f i).2))[i]? = some (f i).2 := by simp [hil]
      rw [h1] at hu
      rw [h2] at hr
      cases hu
      cases hr
      exact (hf i hil).2.1
    · simp only [List.mem_map, List.mem_range] at hx
      obtain ⟨j, hj, rfl⟩ := hx
      exact (hf j hj).2.2
end
end Go.Proofs.Ytphlpipbhaiijaa.opens
