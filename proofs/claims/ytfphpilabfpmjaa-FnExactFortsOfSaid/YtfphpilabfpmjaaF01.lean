/- The least forts, in order: mathematics. -/
import Derived.Test.YtfphpilabfpmjaaForcN
import Derived.Test.YtfphpilabfpmjaaAround
import Derived.Handy
import Derived.Test.YtfphpilabfpmjaaSpreI
import Derived.Deep.DeepCutAuto
import Derived.Deep.RegionHeld3
import Derived.Deep.QuietTactic
import Derived.Test.YtfphpilabfpmjaaUpsB
import Derived.Test.YtfphpilabfpmjaaGrid
import Derived.Test.YtfphpilabfpmjaaGridW
import Derived.Test.YtfphpilabfpmjaaGridR
namespace Go.Proofs.Ytfphpilabfpmjaa.forc
open Go.RowKit P2 words edges ints good adjs fns sets rets covs bags bitsI ups func
set_option linter.unusedVariables false

/-- a set is part of another one -/
def subB (f c : Nat) : Bool := f &&& c == f
theorem subB_iff {f c : Nat} : subB f c = true ↔ ∀ z, f.testBit z = true → c.testBit z = true := by
  unfold subB
  rw [beq_iff_eq]
  constructor
  · intro h z hz
    have : (f &&& c).testBit z = true := by rw [h]; exact hz
    rw [Nat.testBit_and, Bool.and_eq_true] at this
    exact this.2
  · intro h
    apply Nat.eq_of_testBit_eq
    intro z
    rw [Nat.testBit_and]
    cases hf : f.testBit z with
    | false => rfl
    | true => rw [h z hf]; rfl
def ftsF (n : Nat) (l : List Ed) (acc : List Nat) (c : Nat) : List Nat := if (frtB n l c && !(acc.any fun f => subB f c)) = true then acc ++ [c] else acc
def ftsT (n : Nat) (l : List Ed) (S : List Nat) : List Nat := S.foldl (ftsF n l) []
theorem fts_succ {n : Nat} {l : List Ed} {S : List Nat} {i c : Nat} (h : S[i]? = some c) : ftsT n l (S.take (i + 1)) = ftsF n l (ftsT n l (S.take i)) c := by
  unfold ftsT
  rw [List.take_add_one, h, List.foldl_append]
  rfl
theorem fts_sub {n : Nat} {l : List Ed} (S : List Nat) : ∀ acc, (∀ f ∈ S.foldl (ftsF n l) acc, f ∈ acc ∨ f ∈ S) ∧ (S.foldl (ftsF n l) acc).length ≤ acc.length + S.length := by
  induction S with
  | nil => intro acc; exact ⟨fun f hf => .inl hf, Nat.le_refl _⟩
  | cons c S ih =>
    intro acc
    obtain ⟨h1, h2⟩ := ih (ftsF n l acc c)
    constructor
    · intro f hf
      rcases h1 f hf with h | h
      · unfold ftsF at h
        split at h
        · rw [List.mem_append, List.mem_singleton] at h
          rcases h with h | rfl
          · exact .inl h
          · exact .inr (List.mem_cons_self ..)
        · exact .inl h
      · exact .inr (List.mem_cons_of_mem _ h)
    · rw [List.foldl_cons]
      have h3 : (ftsF n l acc c).length ≤ acc.length + 1 := by
        unfold ftsF
        split
        · rw [List.length_append]; exact Nat.le_refl _
        · omega
      rw [List.length_cons]; omega
theorem fts_mem {n : Nat} {l : List Ed} {S : List Nat} {f : Nat} (h : f ∈ ftsT n l S) : f ∈ S := by
  rcases (fts_sub S []).1 f h with h | h
  · cases h
  · exact h
theorem fts_len (n : Nat) (l : List Ed) (S : List Nat) : (ftsT n l S).length ≤ S.length := by
  have h := (fts_sub (n := n) (l := l) S []).2
  show (S.foldl (ftsF n l) []).length ≤ _
  simpa using h
theorem fts_yes {n : Nat} {l : List Ed} {acc : List Nat} {c : Nat} (h1 : frtB n l c = true) (h2 : (acc.any fun f => subB f c) = false) : ftsF n l acc c = acc ++ [c] := by
  unfold ftsF; rw [h1, h2]; rfl
theorem fts_no {n : Nat} {l : List Ed} {acc : List Nat} {c : Nat} (h : frtB n l c = false ∨ (acc.any fun f => subB f c) = true) : ftsF n l acc c = acc := by
  unfold ftsF
  rcases h with h | h
  · rw [h]; rfl
  · rw [h, Bool.not_true, Bool.and_false]; rfl
theorem sub_walk {n f c : Nat} (hn : n ≤ 8) (hf : f < 2 ^ n) (hc : c < 2 ^ n) : (bits .andNot .u64 (f : Int) (c : Int) == 0) = subB f c := by
  have hp := pow_le hn
  have hcn : numOf (bitB c) n = c := by
    apply Nat.eq_of_testBit_eq
    intro i
    rw [numOf_bit]
    unfold bitB
    by_cases hi : i < n
    · simp [hi]
    · rw [decide_eq_false hi, Bool.false_and, Nat.testBit_lt_two_pow (Nat.lt_of_lt_of_le hc (Nat.pow_le_pow_right (by decide) (by omega)))]
  have h2 := andNot_num f (bitB c) n (by omega) hn (fun z => f.testBit z && !c.testBit z) (fun z _ => by
    unfold bitB
    by_cases hz : z < n
    · simp [hz]
    · have : f.testBit z = false := Nat.testBit_lt_two_pow (Nat.lt_of_lt_of_le hf (Nat.pow_le_pow_right (by decide) (by omega)))
      simp [this])
  rw [hcn] at h2
  rw [h2, Bool.eq_iff_iff, beq_iff_eq, subB_iff, show ((numOf (fun z => f.testBit z && !c.testBit z) n : Nat) : Int) = 0 ↔ numOf (fun z => f.testBit z && !c.testBit z) n = 0 from by omega, numOf_zero]
  constructor
  · intro h z hz
    have hzn : z < n := by
      by_cases e : z < n
      · exact e
      · rw [Nat.testBit_lt_two_pow (Nat.lt_of_lt_of_le hf (Nat.pow_le_pow_right (by decide) (by omega)))] at hz; cases hz
    have := h z hzn
    rw [hz] at this
    simpa using this
  · intro h z _
    cases hz : f.testBit z with
    | false => rfl
    | true => rw [h z hz]; rfl
/-- the least forts as lists -/
def ftsL (s : Int) (l : List Ed) : List (List Int) := (ftsT s.toNat l (setsN s.toNat s.toNat)).map ndN
end Go.Proofs.Ytfphpilabfpmjaa.forc

/- Forts: the contracts of the program's isFort and IsFort. -/
namespace Go.Proofs.Ytfphpilabfpmjaa.forc
open Go.RowKit P2 words edges ints good adjs fns sets rets covs bags bitsI ups func
set_option linter.unusedVariables false

set_option maxHeartbeats 2000000 in
set_option maxRecDepth 100000 in
theorem isFort_any (n c : Nat) (v : Value) (l : List Ed) (w : World) (h : Nums w v (clos l n)) (hg : P2.Good (n : Int) l) (hn : n ≤ 8) (hc : c < 2 ^ n) :
    Calls Try.prog 74 #[v, .int .u64 (c : Int)] w fun e w' => e = .returned (.bool (frtB n l c)) ∧ w = w' := by
  obtain ⟨A, cc, rfl, hcl⟩ := h.form
  have HCL := Lib.hid hcl
  have HG := Lib.hid hg
  have hlen := clos_len l n
  rw [hlen]
  have hc256 : c < 256 := Nat.lt_of_lt_of_le hc (pow_le hn)
  have HHS := Lib.hid (fun (k : Nat) (hk : k ≤ 8) => has_any c k w (by omega) hk)
  have HCT := Lib.hid (fun (d : Nat) (hd : d < 256) => count_any d w hd)
  have HK0 : Hid (∀ j, j < 0 → ¬ (c.testBit j = false ∧ insN l c j = 1)) := fun j hj => by omega
  have hne : ((c : Int) != 0) = !(c == 0) := by
    show (!((c : Int) == 0)) = _
    congr 1
    rw [Bool.eq_iff_iff, beq_iff_eq, beq_iff_eq]; omega
  clear h hcl hg hlen hc
  go_enter Try.func74, Try.ntmps74
  go_wp2_with fail
  go_loopg [9] n (fun g iv wx => ∃ k : Nat, k + g = n ∧ iv = .int .i64 (k : Int) ∧ Hid (∀ j, j < k → ¬ (c.testBit j = false ∧ insN l c j = 1)) ∧ wx = w)
  case atStart => exact ⟨0, by omega, rfl, HK0, rfl⟩
  case round =>
    clear HK0
    obtain ⟨k, hkg, rfl, hno, rfl⟩ := hrel
    cases gk with
    | zero =>
      obtain rfl : k = n := by omega
      have HV := Lib.hid (frt_end hno.out)
      go_wp2_with fail
      go_ret
      exact ⟨ret_bool HV.out.symm, rfl⟩
    | succ g2 =>
      have hlt : k < n := by omega
      have hlt' : (k : Int) < (n : Int) := by omega
      obtain ⟨g5, o5, rfl, c0⟩ := HCL.out k _ (clos_at hlt)
      have hcb := cloB_lt' HG.out k (by omega)
      have hand := bits_and_u64_nat (cloB l k) c (by omega) (by omega)
      have hab : cloB l k &&& c < 256 := Nat.lt_of_le_of_lt Nat.and_le_right hc256
      have HH := Lib.hid (HHS.out k (by omega))
      have HCC := Lib.hid (HCT.out (cloB l k &&& c) hab)
      have hins : onesN (cloB l k &&& c) = insN l c k := rfl
      rw [hins] at HCC
      clear hab
      cases hb : c.testBit k with
      | true =>
        have HK : Hid (∀ j, j < k + 1 → ¬ (c.testBit j = false ∧ insN l c j = 1)) := fun j hj => by
          by_cases e : j = k
          · subst e; exact fun h_ => by rw [hb] at h_; cases h_.1
          · exact hno.out j (by omega)
        rw [hb] at HH
        clear hb hins
        generalize insN l c k = q at *
        generalize cloB l k &&& c = y1 at *
        generalize cloB l k = y2 at *
        go_wp2_with fail
        refine HH.out.mono ?_
        rintro e w' ⟨rfl, rfl⟩
        go_wp2_with fail
        go_roundg g2
        case measure => omega
        case rel => exact ⟨k + 1, by omega, by go_num, HK, rfl⟩
      | false =>
        rw [hb] at HH
        by_cases hr : insN l c k = 1
        · have HV := Lib.hid (frt_stop (n := n) hlt hb hr)
          rw [hr] at HCC
          clear hb hins hr
          generalize cloB l k &&& c = y1 at *
          generalize cloB l k = y2 at *
          go_wp2_with fail
          refine HH.out.mono ?_
          rintro e w' ⟨rfl, rfl⟩
          go_wp2_with fail
          refine HCC.out.mono ?_
          rintro e w' ⟨rfl, rfl⟩
          go_wp2_with fail
          first | go_ret | (rw [Exit.noGoto_ret]; go_ret)
          rw [HV.out]
          exact ⟨rfl, rfl⟩
        · have HK : Hid (∀ j, j < k + 1 → ¬ (c.testBit j = false ∧ insN l c j = 1)) := fun j hj => by
            by_cases e : j = k
            · subst e; exact fun h_ => hr h_.2
            · exact hno.out j (by omega)
          have hr' : ((insN l c k : Int) == 1) = false := by rw [beq_eq_false_iff_ne]; omega
          clear hb hins hr
          generalize insN l c k = q at *
          generalize cloB l k &&& c = y1 at *
          generalize cloB l k = y2 at *
          go_wp2_with fail
          refine HH.out.mono ?_
          rintro e w' ⟨rfl, rfl⟩
          go_wp2_with fail
          refine HCC.out.mono ?_
          rintro e w' ⟨rfl, rfl⟩
          go_wp2_with fail
          go_roundg g2
          case measure => omega
          case rel => exact ⟨k + 1, by omega, by go_num, HK, rfl⟩
def FrtP (s : Int) (l : List Ed) (xs : List Int) : Prop := SetOk s l xs ∧ frtB s.toNat l (codeL xs) = true
theorem frtP_is {n : Nat} {l : List Ed} {xs : List Int} (h : SetOk (n : Int) l xs) : okG (FrtP (n : Int) l xs) = frtB n l (codeL xs) := by
  rw [Bool.eq_iff_iff, okG_iff]
  unfold FrtP
  rw [Int.toNat_natCast]
  exact ⟨fun h => h.2, fun h2 => ⟨h, h2⟩⟩
set_option maxHeartbeats 2000000 in
set_option maxRecDepth 100000 in
theorem implIsFort_any (s : Int) (v u : Value) (l : List Ed) (xs : List Int) (w : World) (h : Edges w v l) (hl : l.length ≤ 1048576) (hu : Ints w u xs) (hxl : xs.length ≤ 1048576) :
    Calls Try.prog 34 #[.agg #[.int .i64 s, v], u] w fun e w' => e = .returned (.tuple #[.bool (okG (FrtP s l xs)), .bool (okG (SetOk s l xs))]) ∧ Below w.heap.size w w' := by
  obtain ⟨A, c, rfl, -⟩ := h.form
  have H := Lib.hid h
  have HU := Lib.hid hu
  have b0 : Below w.heap.size w (w.alloc (.cells #[.int .i64 s, .slice A l.length c] 29)) := (Below.refl _ _).alloc (Nat.le_refl _) _
  have g0 := Blk.new w 29 #[.int .i64 s, .slice A l.length c]
  obtain ⟨p0, p1, -, -⟩ := g0.two
  have HS := Lib.hid (hasSet_any s (.slice A l.length c) u l xs _ (h.below b0) hl (hu.below b0) hxl)
  have HB0 := Lib.hid b0
  have HG0 := Lib.hid g0
  clear h hu b0 g0
  by_cases hso : SetOk s l xs
  · rw [okG_yes hso] at HS ⊢
    have h0 := hso.1.1
    have h8 := hso.1.2.1
    obtain ⟨n, rfl⟩ : ∃ n : Nat, s = (n : Int) := ⟨s.toNat, by omega⟩
    have hn : n ≤ 8 := by omega
    have HOK := Lib.hid hso
    have HC := Lib.hid (code_set hso)
    rw [frtP_is hso]
    clear hso
    go_enter Try.func34, Try.ntmps34
    go_wp2_with fail
    refine HS.out.mono ?_
    rintro e w1 ⟨rfl, b1⟩
    have HE1 := Lib.hid (btrans HB0.out b1)
    have HG1 := Lib.hid (HG0.out.below b1 HG0.out.lt)
    clear p0 p1 b1 HS HB0 HG0
    obtain ⟨p0, p1, -, -⟩ := HG1.out.two
    have HCB := Lib.hid (closedBits_any n (.slice A l.length c) l w1 (H.out.below HE1.out) hl HOK.out.1 hn)
    go_wp2_with fail
    refine HCB.out.mono ?_
    rintro e w3 ⟨A3, c3, rfl, i3, b3⟩
    have HE3 := Lib.hid (btrans HE1.out b3)
    have HBO := Lib.hid (bitsOf_any u xs w3 (HU.out.below HE3.out) hxl (fun x hx => by have := HOK.out.2.1 x hx; omega))
    have HIF := Lib.hid (isFort_any n (codeL xs) _ l w3 i3 HOK.out.1 hn HC.out)
    clear p0 p1 b3 i3 HCB
    go_wp2_with fail
    refine HBO.out.mono ?_
    rintro e w' ⟨rfl, rfl⟩
    go_wp2_with fail
    refine HIF.out.mono ?_
    rintro e w' ⟨rfl, rfl⟩
    go_wp2_with fail
    go_ret2
    exact ⟨rfl, HE3.out⟩
  · have HV2 : Hid (okG (FrtP s l xs) = false) := okG_no fun h => hso h.1
    rw [okG_no hso] at HS ⊢
    rw [HV2.out]
    clear hso
    go_enter Try.func34, Try.ntmps34
    go_wp2_with fail
    refine HS.out.mono ?_
    rintro e w1 ⟨rfl, b1⟩
    have HE1 := Lib.hid (btrans HB0.out b1)
    clear p0 p1 b1
    go_wp2_with fail
    go_ret2
    exact ⟨rfl, HE1.out⟩
end Go.Proofs.Ytfphpilabfpmjaa.forc

/- The least forts, in order: the contract of the program's FortsOf. -/
namespace Go.Proofs.Ytfphpilabfpmjaa.forc
open Go.RowKit P2 words edges ints good adjs fns sets rets covs bags bitsI ups func grid gridr
set_option linter.unusedVariables false

theorem containsFuncU_any (u : Value) (xs : List Nat) (f : FuncId) (caps : Array Value) (p : Nat → Bool) (w : World) (hu : Nums w u xs) (hxl : xs.length ≤ 1048576) (h : FnU w f caps xs p) :
    Calls Try.prog 80 #[u, .func (.func f) #[] caps] w fun e w' => e = .returned (.bool (xs.any p)) ∧ Below w.heap.size w w' := by
  have HI := Lib.hid (indexFuncU_any u xs f caps p w hu hxl h)
  have HD := Lib.hid (idxF_any p xs)
  obtain ⟨A2, c2, rfl, -⟩ := hu.form
  clear hu h
  go_enter Try.func80, Try.ntmps80
  go_wp2_with fail
  refine HI.out.mono ?_
  rintro e w1 ⟨rfl, b1⟩
  go_wp2_with fail
  go_ret
  exact ⟨ret_bool HD.out, b1⟩
theorem rowKept {w w' : World} {B B' n m sz sz' : Nat} {t t' : TypeId} {v v' : Value} {xs ys : List Value} (h : w.ownsRow B t sz v n xs) (h' : w.ownsRow B' t' sz' v' m ys) (ht : t ≠ t') (hg : w.grownBy w' v'.ownBlock) : w'.ownsRow B t sz v n xs := by
  refine h.kept hg ?_
  cases hv : v.ownBlock with
  | none => exact .inl rfl
  | some k => exact .inr fun e => own_apart h h' ht k hv e.symm
theorem gridKept {w w' : World} {B B' m : Nat} {v v' : Value} {us : List Value} {rows : List (List Int)} {ys : List Value} (h : OwnG w B v us rows) (h' : w.ownsRow B' 53 1 v' m ys) (hg : w.grownBy w' v'.ownBlock) : OwnG w' B v us rows :=
  ⟨rowKept h.1 h' (by decide) hg, fun i u r hu hr => rowKept (h.2.1 i u r hu hr) h' (by decide) hg, h.2.2⟩
theorem ftsClo_any (n f c b1 : Nat) (w : World) (h1 : w.cell? ⟨b1, 0, none⟩ = some (.int .u64 (c : Int))) (hn : n ≤ 8) (hf : f < 2 ^ n) (hc : c < 2 ^ n) :
    Calls Try.prog 81 #[.int .u64 (f : Int), .pointer (some ⟨b1, 0, none⟩)] w fun e w' => e = .returned (.bool (subB f c)) ∧ Below w.heap.size w w' := by
  have hsw := sub_walk hn hf hc
  have HB := Lib.hid (Below.refl w.heap.size w)
  go_enter Try.func81, Try.ntmps81
  go_wp2_with fail
  go_ret
  exact ⟨rfl, HB.out⟩
set_option maxHeartbeats 8000000 in
set_option maxRecDepth 100000 in
theorem implForts_any (s : Int) (v : Value) (l : List Ed) (w : World) (h : Edges w v l) (hl : l.length ≤ 1048576) :
    Calls Try.prog 38 #[.agg #[.int .i64 s, v]] w (RetGr w (P2.Good s l) (ftsL s l)) := by
  obtain ⟨i0, hi, hz0, hz1, hz2⟩ := info_parts infoU
  obtain ⟨i1, hi1, hy0, hy1, hy2⟩ := info_parts infoRow
  have hmf : ∀ (fn : Fn) (first cap : Array Value) (w : World), (Instr.makeFunc fn first cap).run Try.prog w = .ok (.func fn first cap) w := fun _ _ _ _ => rfl
  obtain ⟨A, c, rfl, -⟩ := h.form
  have H := Lib.hid h
  have b0 : Below w.heap.size w (w.alloc (.cells #[.int .i64 s, .slice A l.length c] 29)) := (Below.refl _ _).alloc (Nat.le_refl _) _
  have HG0 := Lib.hid (Blk.new w 29 #[.int .i64 s, .slice A l.length c])
  obtain ⟨p0, p1, -, -⟩ := HG0.out.two
  have HN := Lib.hid (implIsGraph_any s _ l _ (h.below b0) hl)
  have HB0 := Lib.hid b0
  clear h b0
  by_cases hgd : P2.Good s l
  · rw [goodB_yes hgd] at HN
    have HOK := Lib.hid hgd
    have h0 := hgd.1
    have h8 := hgd.2.1
    obtain ⟨n, rfl⟩ : ∃ n : Nat, s = (n : Int) := ⟨s.toNat, by omega⟩
    have hn : n ≤ 8 := by omega
    have HV : Hid (ftsL (n : Int) l = (ftsT n l (setsN n n)).map ndN) := by show _ = _; unfold ftsL; rw [Int.toNat_natCast]
    rw [HV.out]
    clear hgd HV
    go_enter Try.func38, Try.ntmps38
    go_wp2_with fail
    refine HN.out.mono ?_
    rintro e w1 ⟨rfl, b1⟩
    have HE1 := Lib.hid (btrans HB0.out b1)
    have HG1 := Lib.hid (HG0.out.below b1 HG0.out.lt)
    clear p0 p1 b1 HN HB0 HG0
    obtain ⟨p0, p1, -, -⟩ := HG1.out.two
    have HCB := Lib.hid (closedBits_any n (.slice A l.length c) l w1 (H.out.below HE1.out) hl HOK.out hn)
    go_wp2_with fail
    refine HCB.out.mono ?_
    rintro e w2 ⟨A3, c3, rfl, i3, b3⟩
    have HE2 := Lib.hid (btrans HE1.out b3)
    have HG2 := Lib.hid (HG1.out.below b3 HG1.out.lt)
    have HI2 := Lib.hid i3
    clear p0 p1 b3 i3 HCB HE1 HG1
    obtain ⟨p0, p1, -, -⟩ := HG2.out.two
    have HSU := Lib.hid (setsUpTo_own n n w2 hn hn)
    have hsl := sets_len hn hn
    have HSM := Lib.hid (fun c => mem_all (n := n) (c := c) hn)
    go_wp2_with fail
    refine HSU.out.mono ?_
    rintro e w4 ⟨A5, c5, rfl, o5, b5⟩
    have HE4 := Lib.hid (btrans HE2.out b5)
    have HI4 : Hid (Nums w4 (.slice A3 (clos l n).length c3) (clos l n)) := HI2.out.below b5
    have HS4 : Hid (Nums w4 (.slice A5 (setsN n n).length c5) (setsN n n)) := Reads.of_own o5
    have HO0 : Hid (w4.ownsRow w4.heap.size 53 1 (.slice none 0 0) (ftsT n l ((setsN n n).take 0)).length (cellsU (ftsT n l ((setsN n n).take 0)))) := World.ownsRow_nil _ _ _ _
    have HT0 : Hid (OwnG w4 w4.heap.size (.slice none 0 0) [] ((ftsT n l ((setsN n n).take 0)).map ndN)) := OwnG.nil _ _
    clear p0 p1 b5 o5 HSU HG2 HI2
    generalize setsN n n = S at *
    go_wp2_with fail
    go_loopg [5, 6, 21] S.length (fun g fv lv iv wr => ∃ (i : Nat) (us : List Value) (ow og : Value), ow = fv ∧ og = lv ∧ i + g = S.length ∧ iv = .int .i64 (i : Int) ∧ wr.ownsRow w4.heap.size 53 1 ow (ftsT n l (S.take i)).length (cellsU (ftsT n l (S.take i))) ∧ OwnG wr w4.heap.size og us ((ftsT n l (S.take i)).map ndN) ∧ Below w4.heap.size w4 wr)
    case atStart => exact ⟨0, [], _, _, rfl, rfl, by omega, rfl, HO0.out, HT0.out, Below.refl _ _⟩
    case round =>
      clear HO0 HT0
      obtain ⟨i, us, ow, og, rfl, rfl, hig, rfl, hrow, hgr, hB⟩ := hrel
      obtain ⟨A6, c6, rfl⟩ := own_form hrow
      obtain ⟨A7, c7, rfl⟩ := own_form hgr.1
      cases gk with
      | zero =>
        obtain rfl : i = S.length := by omega
        have HV : Hid (ftsT n l (S.take S.length) = ftsT n l S) := by show _ = _; rw [List.take_length]
        have HRE := Lib.hid (RetGr.yes HOK.out (hgr.base (Nat.le_trans HE4.out.size (Nat.le_refl _))) (btrans HE4.out hB))
        clear hrow hgr hB
        go_wp2_with fail
        go_ret2
        rw [← HV.out]
        exact HRE.out
      | succ g2 =>
        have hlt : i < S.length := by omega
        have hlt' : (i : Int) < (S.length : Int) := by omega
        obtain ⟨d, hd⟩ : ∃ d, S[i]? = some d := ⟨_, List.getElem?_eq_getElem hlt⟩
        have hdn : d < 2 ^ n := (HSM.out d).1 (List.mem_of_getElem? hd)
        obtain ⟨_, _, hf5, hcc⟩ := (show Nums wr (.slice A5 S.length c5) S from HS4.out.below hB).form
        cases hf5
        obtain ⟨g7, o7, rfl, q7⟩ := hcc i d hd
        have HST := Lib.hid (fts_succ (n := n) (l := l) hd)
        have hfl : (ftsT n l (S.take i)).length ≤ 300 := by
          have h1 := fts_len n l (S.take i)
          have h2 : (S.take i).length ≤ S.length := by rw [List.length_take]; omega
          omega
        have HMB : Hid (∀ f ∈ ftsT n l (S.take i), f < 2 ^ n) := fun f hf => (HSM.out f).1 (List.mem_of_mem_take (fts_mem hf))
        have hrl : ((ftsT n l (S.take i)).map ndN).length ≤ 300 := by rw [List.length_map]; exact hfl
        have hsz := hB.size
        have bv : Below w4.heap.size wr (wr.alloc (.cells #[.int .u64 (d : Int)] 53)) := (Below.refl _ _).alloc hsz _
        have bv2 : Below wr.heap.size wr (wr.alloc (.cells #[.int .u64 (d : Int)] 53)) := (Below.refl _ _).alloc (Nat.le_refl _) _
        have HVB := Lib.hid (Blk.new wr 53 #[.int .u64 (d : Int)])
        have HRA := Lib.hid (hrow.alloc (.cells #[.int .u64 (d : Int)] 53))
        have HGA : Hid (OwnG (wr.alloc (.cells #[.int .u64 (d : Int)] 53)) w4.heap.size (.slice A7 ((ftsT n l (S.take i)).map ndN).length c7) us ((ftsT n l (S.take i)).map ndN)) := hgr.below bv2
        have HBA := Lib.hid (hB.trans bv)
        have HSLT := Lib.hid (fun j e => (hrow.lt j e).2)
        have q8 := HVB.out.cell 0
        have HCF := Lib.hid (containsFuncU_any _ (ftsT n l (S.take i)) 81 #[.pointer (some ⟨wr.heap.size, 0, none⟩)] (fun f => subB f d) _ (Reads.of_own HRA.out) (by omega) { enter := fun _ _ => by kernel_rfl, call := fun W hW x hx => ftsClo_any n x d wr.heap.size W (nearv.cell_keep q8 hW) hn (HMB.out x hx) hdn })
        have HIF := Lib.hid (fun (W : World) (hW : Below w4.heap.size w4 W) => isFort_any n d (.slice A3 (clos l n).length c3) l W (HI4.out.below hW) HOK.out hn hdn)
        have HYES := Lib.hid (fts_yes (n := n) (l := l) (acc := ftsT n l (S.take i)) (c := d))
        have HNO := Lib.hid (fts_no (n := n) (l := l) (acc := ftsT n l (S.take i)) (c := d))
        have HWS : Hid ((wr.alloc (.cells #[.int .u64 (d : Int)] 53)).heap.size = wr.heap.size + 1) := World.size_alloc _ _
        have hd256 : d < 256 := Nat.lt_of_lt_of_le hdn (pow_le hn)
        clear hcc hrow hgr hB hd bv bv2 hdn HMB
        generalize ftsT n l (S.take i) = T at *
        generalize hRR : T.map ndN = R at *
        have HRR := Lib.hid hRR
        clear hRR
        go_wp2_with fail
        cases hany : T.any (fun f => subB f d) with
        | true =>
          have HN := Lib.hid (HNO.out (.inr hany))
          rw [hany] at HCF
          clear hany HYES HNO
          refine HCF.out.mono ?_
          rintro e w5 ⟨rfl, b5⟩
          have HR5 := Lib.hid (own_below HRA.out b5)
          have HG5 := Lib.hid (HGA.out.below b5)
          have HB5 := Lib.hid (btrans HBA.out b5)
          clear b5 HCF
          go_wp2_with fail
          go_roundg g2
          case measure => omega
          case rel =>
            refine ⟨i + 1, us, _, _, rfl, rfl, by omega, by go_num, ?_, ?_, HB5.out⟩
            · rw [HST.out, HN.out]; exact HR5.out
            · rw [HST.out, HN.out, HRR.out]; exact HG5.out
        | false =>
          have HNF := Lib.hid (fun hf => HNO.out (.inl hf))
          have HYF := Lib.hid (fun hf => HYES.out hf hany)
          rw [hany] at HCF
          clear hany HYES HNO
          refine HCF.out.mono ?_
          rintro e w5 ⟨rfl, b5⟩
          have HR5 := Lib.hid (own_below HRA.out b5)
          have HG5 := Lib.hid (HGA.out.below b5)
          have HB5 := Lib.hid (btrans HBA.out b5)
          have hvl : wr.heap.size < (wr.alloc (.cells #[.int .u64 (d : Int)] 53)).heap.size := by rw [HWS.out]; omega
          have HV5 := Lib.hid (HVB.out.below b5 hvl)
          have q9 := HV5.out.cell 0
          have hs5 := HB5.out.size
          have hl5 : wr.heap.size < w5.heap.size := Nat.lt_of_lt_of_le hvl b5.size
          have HIX := Lib.hid (HIF.out w5 HB5.out)
          clear b5 HCF q8 hvl HIF
          cases hfr : frtB n l d with
          | false =>
            have HN := Lib.hid (HNF.out hfr)
            rw [hfr] at HIX
            clear hfr HNF HYF
            go_wp2_with fail
            refine HIX.out.mono ?_
            rintro e w' ⟨rfl, rfl⟩
            go_wp2_with fail
            go_roundg g2
            case measure => omega
            case rel =>
              refine ⟨i + 1, us, _, _, rfl, rfl, by omega, by go_num, ?_, ?_, HB5.out⟩
              · rw [HST.out, HN.out]; exact HR5.out
              · rw [HST.out, HN.out, HRR.out]; exact HG5.out
          | true =>
            have HN := Lib.hid (HYF.out hfr)
            rw [hfr] at HIX
            clear hfr HNF HYF
            go_wp2_with fail
            refine HIX.out.mono ?_
            rintro e w' ⟨rfl, rfl⟩
            have o6 := HR5.out
            go_wp2_with (at_builtin; refine wpList_append_own _ rfl _ _ 50 rfl w4.heap.size 53 i0 (.int .u64 0) 1 8 Try.underlying50 hi hz0 hz1 hz2 rfl (by decide) _ _ _ rfl (o6.alloc _) ⟨w5.heap.size, 0, none⟩ 1 1 [.int .u64 (d : Int)] rfl rfl (cell_one_new _ _ _) (fun x hx => by simp at hx; subst hx; rfl) (by unfold maxLen; omega) (by omega) (by simp; omega) ?_; intro v8 w8 hown8 hgrow8 _; have q8 := ((HV5.out.alloc (.cells #[.int .u64 (d : Int)] 53)).grown hgrow8 (fun e => Nat.lt_irrefl _ (HSLT.out _ e.symm))).cell 0)
            have a5 : Below w4.heap.size w5 (w5.alloc (.cells #[.int .u64 (d : Int)] 53)) := (Below.refl _ _).alloc hs5 _
            have a6 : Below w5.heap.size w5 (w5.alloc (.cells #[.int .u64 (d : Int)] 53)) := (Below.refl _ _).alloc (Nat.le_refl _) _
            have hb8 : Below w4.heap.size w5 w8 := a5.grown hgrow8 (by simp; omega) (fun j e => (o6.lt j e).1)
            have HR8 : Hid (w8.ownsRow w4.heap.size 53 1 v8 (T ++ [d]).length (cellsU (T ++ [d]))) := by
              show World.ownsRow _ _ _ _ _ _ _
              rw [show cellsU (T ++ [d]) = cellsU T ++ [.int .u64 (d : Int)] from by simp [cellsU], List.length_append]
              exact hown8
            have HG8 : Hid (OwnG w8 w4.heap.size (.slice A7 R.length c7) us R) := gridKept (HG5.out.below a6) (o6.alloc _) hgrow8
            have HB8 := Lib.hid (HB5.out.trans hb8)
            have hs8 := HB8.out.size
            have HND := Lib.hid (nodes_any d w8 (by omega))
            clear hown8 hgrow8 a5 a6 hb8 o6 q8 q9 HV5 HR5 HG5 HB5 HRA HGA HBA
            refine HND.out.mono ?_
            rintro e w9 ⟨A9, c9, rfl, o9, b9⟩
            have HB9 := Lib.hid b9
            have HO9 := Lib.hid o9
            have hs9 := b9.size
            have hg9 := (HG8.out.below b9).1
            clear o9 b9 HND
            go_wp2_with (at_builtin; refine wpList_append_own _ rfl _ _ 41 rfl w4.heap.size 25 i1 (.slice none 0 0) 1 24 Try.underlying41 hi1 hy0 hy1 hy2 rfl (by decide) _ _ _ rfl (hg9.alloc _) ⟨w9.heap.size, 0, none⟩ 1 1 [.slice A9 (nw (bitB d) 8).length c9] rfl rfl (cell_one_new _ _ _) (fun x hx => by simp at hx; subst hx; rfl) (by unfold maxLen; omega) (by omega) (by simp; omega) ?_; intro v10 w10 hown10 hgrow10 _)
            have HG10 : Hid (OwnG w10 w4.heap.size v10 (us ++ [.slice A9 (nw (bitB d) 8).length c9]) (R ++ [ndN d])) := OwnG.push HG8.out HB9.out hs8 HO9.out hown10 rfl hgrow10
            have HR10 : Hid (w10.ownsRow w4.heap.size 53 1 v8 (T ++ [d]).length (cellsU (T ++ [d]))) := rowKept ((own_below HR8.out HB9.out).alloc _) (hg9.alloc _) (by decide) hgrow10
            have HB10 := Lib.hid (((HB8.out.trans (HB9.out.mono hs8)).alloc (by omega) (.cells #[.slice A9 (nw (bitB d) 8).length c9] 25)).grown hgrow10 (by simp; omega) (fun j e => (hg9.lt j e).1))
            clear hown10 hgrow10 hg9
            go_roundg g2
            case measure => omega
            case rel =>
              refine ⟨i + 1, us ++ [.slice A9 (nw (bitB d) 8).length c9], _, _, rfl, rfl, by omega, by go_num, ?_, ?_, HB10.out⟩
              · rw [HST.out, HN.out]; exact HR10.out
              · rw [HST.out, HN.out, List.map_append, HRR.out]; exact HG10.out
  · rw [goodB_no hgd] at HN
    go_enter Try.func38, Try.ntmps38
    go_wp2_with fail
    refine HN.out.mono ?_
    rintro e w1 ⟨rfl, b1⟩
    have HRE := Lib.hid (RetGr.nil (rows := ftsL s l) hgd (btrans HB0.out b1))
    clear p0 p1 b1 hgd
    go_wp2_with fail
    go_ret2
    exact HRE.out
end Go.Proofs.Ytfphpilabfpmjaa.forc
