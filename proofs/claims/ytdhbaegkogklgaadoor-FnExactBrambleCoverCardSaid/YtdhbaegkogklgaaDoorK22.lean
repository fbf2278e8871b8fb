/- Guards: the contracts of the program's IsDominating, LeastDominating and LargestIndependent. -/
import Derived.Handy
import Derived.Test.YtdhbaegkogklgaaDoorK13
import Derived.Test.YtdhbaegkogklgaaDoorK21
import Derived.Test.YtdhbaegkogklgaaDoorK08
import Derived.Deep.DeepCutAuto
import Derived.Deep.RegionHeld3
import Derived.Deep.QuietTactic
import Derived.Test.YtdhbaegkogklgaaDoorK09
import Derived.Test.YtdhbaegkogklgaaDoorK01
import Derived.Test.YtdhbaegkogklgaaDoorK19
import Derived.Test.YtdhbaegkogklgaaDoorK16
import Derived.Test.YtdhbaegkogklgaaDoorK04
import Derived.Test.YtdhbaegkogklgaaDoorK10
import Derived.Test.YtdhbaegkogklgaaDoorK17
namespace Go.Proofs.YtdhbaegkogklgaaDoor.ups
open Go.RowKit P2 words edges ints good adjs fns sets rets covs bags bitsI func
set_option linter.unusedVariables false

theorem beq_castD (a b : Nat) : (((a : Nat) : Int) == ((b : Nat) : Int)) = (a == b) := by
  rw [Bool.eq_iff_iff, beq_iff_eq, beq_iff_eq]; omega
def DomP (s : Int) (l : List Ed) (xs : List Int) : Prop := SetOk s l xs ∧ domB s.toNat l (codeL xs) = true
theorem domP_is {n : Nat} {l : List Ed} {xs : List Int} (h : SetOk (n : Int) l xs) : okG (DomP (n : Int) l xs) = domB n l (codeL xs) := by
  unfold DomP
  rw [Int.toNat_natCast, Bool.eq_iff_iff, okG_iff]
  exact ⟨fun h => h.2, fun h2 => ⟨h, h2⟩⟩
noncomputable def ldN (n : Nat) (l : List Ed) : Nat := bestC (domB n l) rkMin n
noncomputable def liN (n : Nat) (l : List Ed) : Nat := bestC (farB l n 1) rkMax n
end Go.Proofs.YtdhbaegkogklgaaDoor.ups

/- The contracts of the model's l4Less over lists of the same length, and of LeastSpreading. -/
namespace Go.Proofs.YtdhbaegkogklgaaDoor.ups
open Go.RowKit P2 words edges ints good adjs fns sets rets covs bags balls bitsI func
set_option linter.unusedVariables false

theorem dropI {L : List Int} {i : Nat} {x : Int} (h : L[i]? = some x) : L.drop i = x :: L.drop (i + 1) := by
  obtain ⟨h1, h2⟩ := List.getElem?_eq_some_iff.1 h
  rw [List.drop_eq_getElem_cons h1, h2]
theorem lexI_same {a b : List Int} {i : Nat} {x : Int} (ha : a[i]? = some x) (hb : b[i]? = some x) : lexI (a.drop i) (b.drop i) = lexI (a.drop (i + 1)) (b.drop (i + 1)) := by
  rw [dropI ha, dropI hb]; show (if x = x then _ else _) = _; rw [if_pos rfl]
theorem lexI_diff {a b : List Int} {i : Nat} {x y : Int} (ha : a[i]? = some x) (hb : b[i]? = some y) (h : x ≠ y) : lexI (a.drop i) (b.drop i) = decide (x < y) := by
  rw [dropI ha, dropI hb]; show (if x = y then _ else _) = _; rw [if_neg h]
theorem lexI_end {a b : List Int} : lexI (a.drop a.length) b = false := by
  rw [List.drop_length]; cases b <;> rfl
theorem full_len {n : Nat} {l : List Ed} {r c : Nat} (hn : n ≤ 8) (h : spN n l r c < 2 ^ n) : fullB n l r c = decide (¬ (nw (bitB (spN n l r c)) n).length < n) := by
  have h8 := Nat.lt_of_lt_of_le h (pow_le hn)
  have h1 := ones_full ⟨n, by omega⟩ ⟨spN n l r c, h8⟩ h
  have h2 := ones_topN hn h
  rw [nd_bits hn h, nd_len]
  unfold fullB
  simp only at h1
  rw [Bool.eq_iff_iff, beq_iff_eq, decide_eq_true_iff, ← h1]
  omega
theorem lsp_len (s : Int) (l : List Ed) (r : Int) : (inG (NumOk s l r) (ndN (lspN s.toNat l r.toNat))).length ≤ 1048576 := inG_len fun _ => by
  unfold ndN
  have := nw_len (bitB (lspN s.toNat l r.toNat)) 8
  omega
end Go.Proofs.YtdhbaegkogklgaaDoor.ups

/- Guards: the contracts of the model's l10Dominates, IsDominating and LeastDominating. -/
namespace Go.Proofs.YtdhbaegkogklgaaDoor.ups
open Go.RowKit P2 words edges ints good adjs fns sets rets covs bags balls bitsI func
set_option linter.unusedVariables false

theorem rises_set {n : Nat} {l : List Ed} {xs : List Int} (hg : P2.Good (n : Int) l) : RisesIn xs 0 ((n : Int) - 1) ↔ SetOk (n : Int) l xs :=
  ⟨fun h => ⟨hg, fun x hx => by have := h.1 x hx; omega, h.2⟩, fun h => ⟨fun x hx => by have := h.2.1 x hx; omega, h.2.2⟩⟩
end Go.Proofs.YtdhbaegkogklgaaDoor.ups

/- Guards: the contracts of the program's and the model's CanMoveGuards. -/
namespace Go.Proofs.YtdhbaegkogklgaaDoor.ups
open Go.RowKit P2 words edges ints good adjs fns sets rets covs bags bitsI func lists least
set_option linter.unusedVariables false

def MvOk (s : Int) (l : List Ed) (xs ys : List Int) : Prop := SetOk s l xs ∧ SetOk s l ys ∧ xs.length = ys.length
def MvP (s : Int) (l : List Ed) (all : Bool) (xs ys : List Int) : Prop := MvOk s l xs ys ∧ mvB l all (codeL xs) (codeL ys) = true
theorem mvP_is {s : Int} {l : List Ed} {all : Bool} {xs ys : List Int} (h : MvOk s l xs ys) : okG (MvP s l all xs ys) = mvB l all (codeL xs) (codeL ys) := by
  rw [Bool.eq_iff_iff, okG_iff]
  exact ⟨fun h => h.2, fun h2 => ⟨h, h2⟩⟩
theorem set_nd {n : Nat} {l : List Ed} {xs : List Int} (hn : n ≤ 8) (h : SetOk (n : Int) l xs) : xs = ndN (codeL xs) := by
  have h1 := set_code h.2.2 h.2.1
  rw [nd_bits hn (code_set h)] at h1
  exact h1
theorem set_onesM {n : Nat} {l : List Ed} {xs : List Int} (hn : n ≤ 8) (h : SetOk (n : Int) l xs) : onesN (codeL xs) = xs.length := by
  have h1 := congrArg List.length (set_nd hn h)
  rw [nd_len] at h1
  exact h1.symm
theorem beq_castG (a b : Nat) : (((a : Nat) : Int) == ((b : Nat) : Int)) = (a == b) := by
  rw [Bool.eq_iff_iff, beq_iff_eq, beq_iff_eq]; omega
end Go.Proofs.YtdhbaegkogklgaaDoor.ups

/- The contracts of slices.Index, slices.Contains over integers, and of slices.IndexFunc, slices.ContainsFunc over slices of integers. -/
namespace Go.Proofs.YtdhbaegkogklgaaDoor.idx
open Go.RowKit P2 words edges ints fns func gridr
set_option linter.unusedVariables false

def idxE (tl : List Int) (x : Int) : Int := idxF (fun y => y == x) tl
set_option maxHeartbeats 1000000 in
theorem index_any (u : Value) (xs : List Int) (x : Int) (w : World) (hu : Ints w u xs) (hxl : xs.length ≤ 1048576) :
    Calls Tryd.prog 131 #[u, .int .i64 x] w fun e w' => e = .returned (.int .i64 (idxE xs x)) ∧ w = w' := by
  obtain ⟨A2, c2, rfl, hc⟩ := hu.form
  have HC := Lib.hid hc
  clear hu hc
  go_enter Tryd.func131, Tryd.ntmps131
  go_wp2_with fail
  go_loop [8] (fun i => ∃ k : Nat, k ≤ xs.length ∧ i = .int .i64 (k : Int) ∧ Hid (∀ j y, j < k → xs[j]? = some y → (y == x) = false)) (fun i => xs.length - (intOf i).toNat)
  case atStart => exact ⟨0, by omega, rfl, fun j e h => by omega⟩
  case round =>
    obtain ⟨k, hk, rfl, hno⟩ := hrel
    by_cases hlt : k < xs.length
    · have hlt' : (k : Int) < (xs.length : Int) := by omega
      obtain ⟨y, hy⟩ : ∃ y, xs[k]? = some y := ⟨_, List.getElem?_eq_getElem hlt⟩
      obtain ⟨g, o, rfl, c0⟩ := HC.out k y hy
      cases hp : (y == x) with
      | true =>
        have HN := Lib.hid (idxF_at (p := fun y => y == x) hno.out hy hp)
        have hp2 : (x == y) = true := by rw [BEq.comm]; exact hp
        clear hy hp
        go_wp2_with fail
        go_ret
        exact ⟨ret_int HN.out.symm, rfl⟩
      | false =>
        have HK := Lib.hid (func.no_succ (p := fun y => y == x) hno.out hy hp)
        have hp2 : (x == y) = false := by rw [BEq.comm]; exact hp
        clear hy hp
        go_wp2_with fail
        go_round
        case rel => exact ⟨k + 1, by omega, by go_num, HK⟩
        case measure => simp [intOf]; omega
    · obtain rfl : k = xs.length := by omega
      have HN := Lib.hid (idxF_none hno.out)
      go_wp2_with fail
      go_ret
      exact ⟨ret_int HN.out.symm, rfl⟩
theorem idx_mem (xs : List Int) (x : Int) : decide (0 ≤ idxE xs x) = decide (x ∈ xs) := by
  unfold idxE
  rw [idxF_any]
  by_cases h : x ∈ xs
  · rw [decide_eq_true h, List.any_eq_true]; exact ⟨x, h, by simp⟩
  · rw [decide_eq_false h, Bool.eq_false_iff]
    intro hh
    obtain ⟨y, hy, e⟩ := List.any_eq_true.1 hh
    have : y = x := by simpa using e
    subst this
    exact h hy
theorem contains_any (u : Value) (xs : List Int) (x : Int) (w : World) (hu : Ints w u xs) (hxl : xs.length ≤ 1048576) :
    Calls Tryd.prog 108 #[u, .int .i64 x] w fun e w' => e = .returned (.bool (decide (x ∈ xs))) ∧ w = w' := by
  have HI := Lib.hid (index_any u xs x w hu hxl)
  have HM := Lib.hid (idx_mem xs x)
  clear hu
  generalize idxE xs x = k at *
  go_enter Tryd.func108, Tryd.ntmps108
  go_wp2_with fail
  refine HI.out.mono ?_
  rintro e w' ⟨rfl, rfl⟩
  go_wp2_with fail
  go_ret
  exact ⟨ret_bool HM.out, rfl⟩
/-- a function value that answers for the rows of a slice of slices, in every world that goes on from w -/
structure FnG (w : World) (f : FuncId) (caps : Array Value) (us : List Value) (xs : List (List Int)) (p : List Int → Bool) : Prop where
  enter : ∀ (args : Array Value) (W : World), (callFunc f args).run Tryd.prog W = .ok (.enter f args) W
  call : ∀ W, Below w.heap.size w W → ∀ (k : Nat) u x, us[k]? = some u → xs[k]? = some x → Calls Tryd.prog f (#[u] ++ caps) W fun e W' => e = .returned (.bool (p x)) ∧ Below W.heap.size W W'
set_option maxHeartbeats 1000000 in
theorem indexFuncG_any (u : Value) (us : List Value) (xs : List (List Int)) (f : FuncId) (caps : Array Value) (p : List Int → Bool) (w : World) (hu : ReadsG w u us xs) (hxl : xs.length ≤ 1048576) (h : FnG w f caps us xs p) :
    Calls Tryd.prog 82 #[u, .func (.func f) #[] caps] w fun e w' => e = .returned (.int .i64 (idxF p xs)) ∧ Below w.heap.size w w' := by
  obtain ⟨A2, c2, rfl, -⟩ := hu.1
  have HC := Lib.hid hu
  have hent := h.enter
  have HF := Lib.hid h.call
  clear hu h
  go_enter Tryd.func82, Tryd.ntmps82
  go_wp2_with fail
  go_loopg [8] xs.length (fun g i wr => ∃ k : Nat, k + g = xs.length ∧ i = .int .i64 (k : Int) ∧ Hid (∀ j y, j < k → xs[j]? = some y → p y = false) ∧ Below w.heap.size w wr)
  case atStart => exact ⟨0, by omega, rfl, fun j e h => by omega, Below.refl _ _⟩
  case round =>
    obtain ⟨k, hkg, rfl, hno, hB⟩ := hrel
    cases gk with
    | zero =>
      obtain rfl : k = xs.length := by omega
      have HN := Lib.hid (idxF_none hno.out)
      go_wp2_with fail
      go_ret
      exact ⟨ret_int (by rw [HN.out]), hB⟩
    | succ g2 =>
      have hlt : k < xs.length := by omega
      have hlt' : (k : Int) < (xs.length : Int) := by omega
      obtain ⟨y, hy⟩ : ∃ y, xs[k]? = some y := ⟨_, List.getElem?_eq_getElem hlt⟩
      obtain ⟨u, g, o, hu, rfl, c0, -⟩ := HC.out.row hy
      have q0 := nearv.cell_keep c0 hB
      have HP := Lib.hid (HF.out wr hB k u y hu hy)
      clear c0
      cases hp : p y with
      | true =>
        have HN := Lib.hid (idxF_at hno.out hy hp)
        rw [hp] at HP
        clear hy hp
        go_wp2_with fail
        refine HP.out.mono ?_
        rintro e w1 ⟨rfl, b1⟩
        go_wp2_with fail
        go_ret
        exact ⟨ret_int (by rw [HN.out]), btrans hB b1⟩
      | false =>
        have HK := Lib.hid (no_succ hno.out hy hp)
        rw [hp] at HP
        clear hy hp
        go_wp2_with fail
        refine HP.out.mono ?_
        rintro e w1 ⟨rfl, b1⟩
        have hB1 := btrans hB b1
        clear hB b1 q0
        go_wp2_with fail
        go_roundg g2
        case measure => omega
        case rel => exact ⟨k + 1, by omega, by go_num, HK, hB1⟩
end Go.Proofs.YtdhbaegkogklgaaDoor.idx

/- Guards: the contracts of the program's isAttack and GuardAnswers. -/
namespace Go.Proofs.YtdhbaegkogklgaaDoor.ups
open Go.RowKit P2 words edges ints owns good adjs fns sets rets covs bags bitsI func lists least grid balls times idx
set_option linter.unusedVariables false

/-- an attack at a node without a guard -/
def AtOk (s : Int) (l : List Ed) (xs : List Int) (x : Int) : Prop := SetOk s l xs ∧ (0 ≤ x ∧ x < s) ∧ x ∉ xs
/-- the sets that answer it -/
def gaN (s : Int) (l : List Ed) (all : Bool) (xs : List Int) (x : Int) : List Nat := (setsK s.toNat xs.length).filter (ansB l all x.toNat (codeL xs))
set_option maxHeartbeats 4000000 in
set_option maxRecDepth 100000 in
theorem isAttack_any (s x : Int) (v u : Value) (l : List Ed) (xs : List Int) (w : World) (h : Edges w v l) (hl : l.length ≤ 1048576) (hu : Ints w u xs) (hxl : xs.length ≤ 1048576) :
    Calls Tryd.prog 59 #[.agg #[.int .i64 s, v], u, .int .i64 x] w fun e w' => e = .returned (.bool (okG (AtOk s l xs x))) ∧ Below w.heap.size w w' := by
  obtain ⟨A, c, rfl, -⟩ := h.form
  have H := Lib.hid h
  have HU := Lib.hid hu
  have b0 : Below w.heap.size w (w.alloc (.cells #[.int .i64 s, .slice A l.length c] 29)) := (Below.refl _ _).alloc (Nat.le_refl _) _
  have g0 := Blk.new w 29 #[.int .i64 s, .slice A l.length c]
  obtain ⟨p0, p1, -, -⟩ := g0.two
  have HS := Lib.hid (hasSet_any s (.slice A l.length c) u l xs _ (h.below b0) hl (hu.below b0) hxl)
  have HB0 := Lib.hid b0
  have HG0 := Lib.hid g0
  have HN := Lib.hid (fun (W : World) (hW : Below w.heap.size w W) => hasNodes_any s (.slice A l.length c) (.slice (some ⟨W.heap.size, 0, none⟩) 1 1) l [x] (W.alloc (.cells #[.int .i64 x] 3)) (H.out.below (hW.alloc hW.size _)) hl (one_reads (Blk.new W 3 #[.int .i64 x])) (by simp))
  have HC := Lib.hid (fun (W : World) (hW : Below w.heap.size w W) => contains_any u xs x W (HU.out.below hW) hxl)
  clear h hu b0 g0
  by_cases hso : SetOk s l xs
  · rw [okG_yes hso] at HS
    by_cases hx : 0 ≤ x ∧ x < s
    · have hnb : nodesB s l [x] = true := nodesB_iff.2 ⟨hso.1, fun y hy => by rw [List.mem_singleton.1 hy]; exact hx⟩
      rw [hnb] at HN
      have HV : Hid (okG (AtOk s l xs x) = !decide (x ∈ xs)) := by
        show _ = _
        rw [Bool.eq_iff_iff, okG_iff, Bool.not_eq_true', decide_eq_false_iff_not]
        exact ⟨fun h => h.2.2, fun h => ⟨hso, hx, h⟩⟩
      clear hso hx hnb
      generalize decide (x ∈ xs) = bb at *
      go_enter Tryd.func59, Tryd.ntmps59
      go_wp2_with fail
      refine HS.out.mono ?_
      rintro e w1 ⟨rfl, b1⟩
      have HE1 := Lib.hid (btrans HB0.out b1)
      have HG1 := Lib.hid (HG0.out.below b1 HG0.out.lt)
      have HN1 := Lib.hid (HN.out w1 HE1.out)
      clear p0 p1 b1
      obtain ⟨p0, p1, -, -⟩ := HG1.out.two
      go_wp2_with fail
      refine HN1.out.mono ?_
      rintro e w2 ⟨rfl, b2⟩
      have HE2 := Lib.hid (HE1.out.trans ((b2.mono (by rw [World.size_alloc]; exact Nat.le_trans HE1.out.size (Nat.le_succ _)) : Below w.heap.size _ _) |> fun h_ => (((Below.refl w.heap.size w1).alloc HE1.out.size _).trans h_)))
      clear p0 p1 b2
      go_wp2_with fail
      refine (HC.out w2 HE2.out).mono ?_
      rintro e w' ⟨rfl, rfl⟩
      go_wp2_with fail
      go_ret
      rw [HV.out]
      exact ⟨rfl, HE2.out⟩
    · have hnb : nodesB s l [x] = false := nodesB_no fun h => hx (h.2 x (by simp))
      rw [hnb] at HN
      have HV : Hid (okG (AtOk s l xs x) = false) := okG_no fun h => hx h.2.1
      clear hso hx hnb
      go_enter Tryd.func59, Tryd.ntmps59
      go_wp2_with fail
      refine HS.out.mono ?_
      rintro e w1 ⟨rfl, b1⟩
      have HE1 := Lib.hid (btrans HB0.out b1)
      have HG1 := Lib.hid (HG0.out.below b1 HG0.out.lt)
      have HN1 := Lib.hid (HN.out w1 HE1.out)
      clear p0 p1 b1
      obtain ⟨p0, p1, -, -⟩ := HG1.out.two
      go_wp2_with fail
      refine HN1.out.mono ?_
      rintro e w2 ⟨rfl, b2⟩
      have HE2 := Lib.hid (HE1.out.trans ((b2.mono (by rw [World.size_alloc]; exact Nat.le_trans HE1.out.size (Nat.le_succ _)) : Below w.heap.size _ _) |> fun h_ => (((Below.refl w.heap.size w1).alloc HE1.out.size _).trans h_)))
      clear p0 p1 b2
      go_wp2_with fail
      go_ret
      rw [HV.out]
      exact ⟨rfl, HE2.out⟩
  · rw [okG_no hso] at HS
    have HV : Hid (okG (AtOk s l xs x) = false) := okG_no fun h => hso h.1
    clear hso
    go_enter Tryd.func59, Tryd.ntmps59
    go_wp2_with fail
    refine HS.out.mono ?_
    rintro e w1 ⟨rfl, b1⟩
    have HE1 := Lib.hid (btrans HB0.out b1)
    clear p0 p1 b1
    go_wp2_with fail
    go_ret
    rw [HV.out]
    exact ⟨rfl, HE1.out⟩
end Go.Proofs.YtdhbaegkogklgaaDoor.ups
