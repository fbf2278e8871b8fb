/- The contracts of the laws' own helpers over a slice of texts: eqStringS, markText, markStringS, heldStringS. -/
import Derived.Test.YtgbnpdgehknfpaaProg
import Derived.Test.YtgbnpdgehknfpaaPlain
import Derived.WalkKit
import Derived.WalkLawsBesides
import Derived.WalkSpells
import Derived.WalkSmall
import Derived.IntWalk
import Derived.Laws.Concat
import Derived.Laws.IdiomStrings
import Derived.Deep.QuietTactic
import Derived.BigQuiet
import Derived.Deep.RegionHeld3
import Derived.Lib.ItoaNum
import Derived.Lib.Strings
namespace Go.Proofs.Ytgbnpdgehknfpaa.marks
open Go.RowKit P1

/-- the mark of a number: m and its decimals -/
def markB (k : Nat) : List UInt8 := 109 :: Lib.decDigits k
/-- the digits that are still to come, ahead of those that have come -/
def ahead (j : Nat) (t : List UInt8) : List UInt8 := if j = 0 then t else Lib.decDigits j ++ t

theorem ahead_step (j : Nat) (t : List UInt8) (h : 0 < j) : ahead (j / 10) (UInt8.ofNat (48 + j % 10) :: t) = ahead j t := by
  have e : ahead j t = Lib.decDigits j ++ t := by unfold ahead; rw [if_neg (by omega)]
  rw [e]
  by_cases h10 : j < 10
  · unfold ahead
    rw [if_pos (by omega), Lib.decDigits_one h10, Nat.mod_eq_of_lt h10]; rfl
  · have e2 : Lib.decDigits j = Lib.decDigits (j / 10) ++ [UInt8.ofNat (48 + j % 10)] := by rw [Lib.decDigits, dif_neg h10]
    unfold ahead
    rw [if_neg (by omega), e2]
    simp

theorem dec_len (u : Nat) : (Lib.decDigits u).length ≤ u + 1 := by
  induction u using Nat.strongRecOn with
  | _ u ih =>
    by_cases h : u < 10
    · rw [Lib.decDigits_one h]; simp
    · rw [Lib.decDigits, dif_neg h, List.length_append]
      have := ih (u / 10) (by omega)
      simp; omega
theorem ahead_len (j : Nat) (t : List UInt8) : t.length ≤ (ahead j t).length := by
  unfold ahead; split
  · omega
  · simp

set_option maxHeartbeats 400000 in
theorem markText_any (k : Nat) (w : World) (h1 : 1 ≤ k) (h2 : k ≤ 10000000) :
    Calls Try.prog 33 #[.int .i64 (k : Int)] w fun e w' => e = .returned (.string ⟨(markB k).toArray⟩) ∧ Below w.heap.size w w' := by
  have hlen : (ahead k []).length ≤ 10000001 := by
    unfold ahead; rw [if_neg (by omega)]; have := dec_len k; simp; omega
  have hk0 : (0 : Int) < k := by omega
  go_enter Try.func33, Try.ntmps33
  go_wp2
  go_loopw [0, 3] (fun n t wr => ∃ (j : Nat) (l : List UInt8), n = .int .i64 (j : Int) ∧ t = .string ⟨l.toArray⟩ ∧ (j : Int) ≤ 10000000 ∧ Hid (ahead j l = ahead k []) ∧ Below w.heap.size w wr)
    (fun n _ _ => (intOf n).toNat)
  case atStart => exact ⟨k, [], rfl, rfl, by omega, rfl, Below.refl _ _⟩
  case round =>
    obtain ⟨j, l, rfl, rfl, hj, hA, hB⟩ := hrel
    by_cases hpos : (0 : Int) < (j : Int)
    · obtain ⟨d, hd⟩ : ∃ d, d = j / 10 := ⟨_, rfl⟩
      obtain ⟨r, hr⟩ : ∃ r, r = j % 10 := ⟨_, rfl⟩
      have hl := ahead_len j l
      have hl2 : l.length ≤ 10000001 := by rw [hA.out] at hl; omega
      have HA : Hid (ahead d (UInt8.ofNat (48 + r) :: l) = ahead k []) := by
        show _ = _
        rw [hd, hr, ahead_step j l (by omega)]; exact hA.out
      have hdj : d < j := by omega
      obtain ⟨c, hc⟩ : ∃ c, c = UInt8.ofNat (48 + r) := ⟨_, rfl⟩
      have hcn : c.toNat = 48 + r := by rw [hc, UInt8.toNat_ofNat']; omega
      rw [← hc] at HA
      have hm : (j : Int) % 10 = (r : Int) := by omega
      have hq : (j : Int) / 10 = (d : Int) := by omega
      have hr9 : (r : Int) ≤ 9 := by omega
      have hcv : (convert 22 9 (.slice (some ⟨wr.heap.size, 0, none⟩) 1 1)).run Try.prog (wr.alloc (.cells #[.int .u8 (48 + (r : Int))] 5)) = .ok (.string ⟨#[c]⟩) (wr.alloc (.cells #[.int .u8 (48 + (r : Int))] 5)) :=
        run_convert_bytes_back _ 22 9 5 ⟨wr.heap.size, 0, none⟩ 1 [c] Try.underlying22 Try.underlying5 Try.underlying9 (by
          intro q hq'
          have hq0 : q = 0 := by simpa using hq'
          subst hq0
          have := cell_one_new wr (.int .u8 (48 + (r : Int))) 5 0 (.int .u8 (48 + (r : Int))) rfl
          rw [this]; simp [hcn])
      have hcat : ∀ W : World, (Op.stringOp .add ⟨#[c]⟩ ⟨l.toArray⟩).run Try.prog W = .ok (.string ⟨(c :: l).toArray⟩) W := fun W => by
        rw [run_string_add_sum W _ _ (by rw [show (⟨l.toArray⟩ : ByteArray).size = l.length from by simp [ByteArray.size], show (⟨#[c]⟩ : ByteArray).size = 1 from rfl]; omega)]
        exact congrArg (fun x => Result.ok (Value.string x) W) (bytes_app [c] l)
      clear hc hl hd hr hcn
      go_wp2
      go_roundw
      case rel => exact ⟨d, c :: l, by go_num, rfl, by omega, HA, hB.alloc (by have := hB.size; omega) _⟩
      case measure => simp [intOf]; omega
    · obtain rfl : j = 0 := by omega
      have HE : Hid (109 :: l = markB k) := by
        have := hA.out
        unfold ahead at this
        rw [if_pos rfl, if_neg (by omega)] at this
        show _ = _
        rw [this]; simp [markB]
      have hl2 : l.length ≤ 10000001 := by have := ahead_len 0 l; rw [hA.out] at this; omega
      have hcat : ∀ W : World, (Op.stringOp .add ⟨#[109]⟩ ⟨l.toArray⟩).run Try.prog W = .ok (.string ⟨(109 :: l).toArray⟩) W := fun W => by
        rw [run_string_add_sum W _ _ (by rw [show (⟨l.toArray⟩ : ByteArray).size = l.length from by simp [ByteArray.size], show (⟨#[109]⟩ : ByteArray).size = 1 from rfl]; omega)]
        exact congrArg (fun x => Result.ok (Value.string x) W) (bytes_app [109] l)
      go_wp2
      go_ret
      exact ⟨congrArg (fun l : List UInt8 => Ending.returned (.string ⟨l.toArray⟩)) HE.out, hB⟩

/-- a slice that reads as a list of texts; the nil one too -/
def Txt (w : World) (v : Value) (l : List ByteArray) : Prop :=
  ∃ A c, v = .slice A l.length c ∧ (0 < l.length → ∃ g o, A = some ⟨g, o, none⟩ ∧ ∀ j x, l[j]? = some x → w.cell? ⟨g, o + j, none⟩ = some (.string x))
theorem Txt.keep {w w' : World} {v : Value} {l : List ByteArray} (h : Txt w v l) (hk : ∀ p : Addr, p.block < w.heap.size → w'.cell? p = w.cell? p) : Txt w' v l := by
  obtain ⟨A, c, e, hc⟩ := h
  exact ⟨A, c, e, fun hn => by
    obtain ⟨g, o, eA, hx⟩ := hc hn
    exact ⟨g, o, eA, fun j x hj => (hk ⟨g, o + j, none⟩ (World.block_lt_of_cell? w (a := ⟨g, o + j, none⟩) (hx j x hj))).trans (hx j x hj)⟩⟩
theorem Txt.below {w w' : World} {v : Value} {l : List ByteArray} (h : Txt w v l) (hb : Below w.heap.size w w') : Txt w' v l := h.keep fun _ hp => hb.cell hp
theorem Txt.drewN {w : World} {v : Value} {l : List ByteArray} (h : Txt w v l) (k : Nat) : Txt (w.drewN k) v l := h
theorem Txt.of_own {w : World} {B : Nat} {v : Value} {l : List ByteArray} (h : w.ownsRow B 9 1 v l.length (l.map Value.string)) : Txt w v l := by
  rcases h.2 with ⟨rfl, h0⟩ | ⟨g, cap, cur, rfl, _, hg, _⟩
  · exact ⟨none, 0, by rw [h0], fun hn => by omega⟩
  · refine ⟨some ⟨g, 0, none⟩, cap, rfl, fun _ => ⟨g, 0, rfl, fun j x hj => ?_⟩⟩
    have hlt : j < l.length := (List.getElem?_eq_some_iff.1 hj).1
    have := h.cellAt (g := g) (cap := cap) j (by omega)
    rw [Nat.zero_add, this, List.getElem?_map, hj]; rfl

theorem str_eq_self (x : ByteArray) : (x.toList == x.toList) = true := by simp

set_option maxHeartbeats 400000 in
theorem eqStringS_yes (a b : Value) (l : List ByteArray) (w : World) (ha : Txt w a l) (hb : Txt w b l) (hl : l.length ≤ 4503599627370496) :
    Calls Try.prog 18 #[a, b] w fun e w' => e = .returned (.bool true) ∧ ∃ m, w' = w.drewN m := by
  obtain ⟨A1, c1, rfl, h1⟩ := ha
  obtain ⟨A2, c2, rfl, h2⟩ := hb
  go_enter Try.func18, Try.ntmps18
  go_wp2
  go_loopw [5] (fun i wr => ∃ k : Nat, k ≤ l.length ∧ i = .int .i64 (k : Int) ∧ ∃ m, wr = w.drewN m) (fun i _ => l.length - (intOf i).toNat)
  case atStart => exact ⟨0, Nat.zero_le _, rfl, 0, rfl⟩
  case round =>
    obtain ⟨k, hk, rfl, m, rfl⟩ := hrel
    by_cases hlt : k < l.length
    · obtain ⟨g1, o1, rfl, hx1⟩ := h1 (by omega)
      obtain ⟨g2, o2, rfl, hx2⟩ := h2 (by omega)
      obtain ⟨x, hx⟩ : ∃ x, l[k]? = some x := ⟨_, List.getElem?_eq_getElem hlt⟩
      have e1 := hx1 k x hx
      have e2 := hx2 k x hx
      have hlt' : (k : Int) < (l.length : Int) := by omega
      have hself := str_eq_self x
      clear hx1 hx2 h1 h2 hx
      go_wp2
      go_quiet (fail)
      go_wp2
      go_roundw
      case rel => exact ⟨k + 1, by omega, by go_num, _, rfl⟩
      case measure => simp [intOf]; omega
    · clear h1 h2
      go_wp2
      go_ret
      exact ⟨rfl, _, rfl⟩

theorem gtrans {a w w' : World} {row : Option Nat} (h : a.grownBy w row) (k : w.grownBy w' row) : a.grownBy w' row :=
  ⟨k.os.trans h.os, k.tape.trans h.tape, k.output.trans h.output, Nat.le_trans h.size k.size, fun i hi hne => (k.block i (Nat.lt_of_lt_of_le hi h.size) hne).trans (h.block i hi hne)⟩
theorem gof {w w' : World} (hb : Below w.heap.size w w') (row : Option Nat) : w.grownBy w' row := ⟨hb.os, hb.tape, hb.output, hb.size, fun i hi _ => hb.block i hi⟩

/-- the marks of n places, the first m -/
def marks (m n : Nat) : List ByteArray := (List.range n).map fun j => ⟨(markB (m + j)).toArray⟩
theorem marks_len (m n : Nat) : (marks m n).length = n := by simp [marks]
theorem marks_at (m n j : Nat) (h : j < n) : (marks m n)[j]? = some ⟨(markB (m + j)).toArray⟩ := by simp [marks, h]
theorem marks_succ (m n : Nat) : marks m (n + 1) = marks m n ++ [⟨(markB (m + n)).toArray⟩] := by simp [marks, List.range_succ]
theorem marks_set (m k : Nat) (l : List ByteArray) (hk : k < l.length) :
    ((marks m k ++ l.drop k).map Value.string).set k (.string ⟨(markB (m + k)).toArray⟩) = (marks m (k + 1) ++ l.drop (k + 1)).map Value.string := by
  rw [← List.map_set, marks_succ]
  congr 1
  rw [List.set_append_right _ _ (by rw [marks_len]; exact Nat.le_refl _), marks_len, Nat.sub_self, List.drop_eq_getElem_cons hk, List.set_cons_zero, List.append_assoc]
  rfl
theorem marks_mid_len (m k : Nat) (l : List ByteArray) (hk : k ≤ l.length) : (marks m k ++ l.drop k).length = l.length := by
  rw [List.length_append, marks_len, List.length_drop]; omega

set_option maxHeartbeats 1000000 in
theorem markStringS_any (v : Value) (l : List ByteArray) (B m : Nat) (w : World) (h : w.ownsRow B 9 1 v l.length (l.map Value.string)) (hm : 1 ≤ m) (hl : m + l.length ≤ 10000000) :
    Calls Try.prog 19 #[v, .int .i64 (m : Int)] w fun e w' => e = .returned (.int .i64 ((m + l.length : Nat) : Int)) ∧ w'.ownsRow B 9 1 v l.length ((marks m l.length).map Value.string) ∧ w.grownBy w' v.ownBlock := by
  obtain ⟨A, c, rfl, -⟩ := Txt.of_own h
  go_enter Try.func19, Try.ntmps19
  go_wp2
  go_loopw [1, 5] (fun q i wr => ∃ k : Nat, k ≤ l.length ∧ i = .int .i64 (k : Int) ∧ q = .int .i64 ((m + k : Nat) : Int) ∧ wr.ownsRow B 9 1 (.slice A l.length c) l.length ((marks m k ++ l.drop k).map Value.string) ∧ w.grownBy wr (Value.slice A l.length c).ownBlock)
    (fun _ i _ => l.length - (intOf i).toNat)
  case atStart => exact ⟨0, Nat.zero_le _, rfl, rfl, by simpa [marks] using h, World.grownBy.refl _ _⟩
  case round =>
    obtain ⟨k, hk, rfl, rfl, hrow, hg⟩ := hrel
    have hml := marks_mid_len m k l hk
    by_cases hlt : k < l.length
    · obtain ⟨g, cap, hf⟩ : ∃ g cap, Value.slice A l.length c = .slice (some ⟨g, 0, none⟩) l.length cap := by
        rcases hrow.2 with ⟨hf, h0⟩ | ⟨g, cap, cur, hf, _⟩
        · omega
        · exact ⟨g, cap, hf⟩
      obtain ⟨rfl, rfl⟩ : A = some ⟨g, 0, none⟩ ∧ c = cap := by simpa using hf
      clear hf h
      have HS := Lib.hid (marks_set m k l hlt)
      generalize (marks m k ++ l.drop k).map Value.string = xs at *
      go_wp2_with (go_at_call 33; refine (markText_any (m + k) _ (by omega) (by omega)).mono ?_; rintro e w1 ⟨rfl, hb⟩; refine Hid.out ?_)
      refine Lib.hid ?_
      have hrow1 := hrow.kept (gof hb none) (.inr (by simp [Value.ownBlock]))
      have hxl : xs.length = l.length := by have := hrow.1; omega
      obtain ⟨u, hu⟩ : ∃ u, xs[k]? = some u := ⟨_, List.getElem?_eq_getElem (by omega)⟩
      have hcell : w1.cell? ⟨g, k, none⟩ = some u := by rw [hrow1.cellAt k (by omega), hu]
      have hfr := hrow1.frozenAt k
      have hst := hrow1.stored k (.string ⟨(markB (m + k)).toArray⟩)
      rw [HS.out] at hst
      have hlt' : (k : Int) < (l.length : Int) := by omega
      have HST := Lib.hid hst
      clear hst hu
      go_wp2
      go_roundw
      case rel => exact ⟨k + 1, by omega, by go_num, by go_num, HST.out.1, gtrans hg (gtrans (gof hb _) HST.out.2)⟩
      case measure => simp [intOf]; omega
    · obtain rfl : k = l.length := by omega
      clear h
      go_wp2
      go_ret
      exact ⟨rfl, by simpa using hrow, hg⟩

set_option maxHeartbeats 1000000 in
theorem heldStringS_any (v : Value) (n m : Nat) (w : World) (h : Txt w v (marks m n)) (hm : 1 ≤ m) (hl : m + n ≤ 10000000) :
    Calls Try.prog 20 #[v, .int .i64 (m : Int)] w fun e w' => e = .returned (.int .i64 ((m + n : Nat) : Int)) ∧ Below w.heap.size w w' := by
  obtain ⟨A, c, rfl, hx⟩ := h
  rw [marks_len] at hx ⊢
  go_enter Try.func20, Try.ntmps20
  go_wp2
  go_loopw [1, 5] (fun q i wr => ∃ k : Nat, k ≤ n ∧ i = .int .i64 (k : Int) ∧ q = .int .i64 ((m + k : Nat) : Int) ∧ Below w.heap.size w wr)
    (fun _ i _ => n - (intOf i).toNat)
  case atStart => exact ⟨0, Nat.zero_le _, rfl, rfl, Below.refl _ _⟩
  case round =>
    obtain ⟨k, hk, rfl, rfl, hB⟩ := hrel
    by_cases hlt : k < n
    · obtain ⟨g, o, rfl, hc⟩ := hx (by omega)
      have hcell0 := hc k _ (marks_at m n k hlt)
      have hcell : wr.cell? ⟨g, o + k, none⟩ = some (.string ⟨(markB (m + k)).toArray⟩) := (hB.cell (p := ⟨g, o + k, none⟩) (World.block_lt_of_cell? w (a := ⟨g, o + k, none⟩) hcell0)).trans hcell0
      have hmt := fun (W : World) (hW : W.cell? ⟨g, o + k, none⟩ = some (.string ⟨(markB (m + k)).toArray⟩)) => (markText_any (m + k) W (by omega) (by omega)).mono (R' := fun e w' => e = .returned (.string ⟨(markB (m + k)).toArray⟩) ∧ w'.cell? ⟨g, o + k, none⟩ = some (.string ⟨(markB (m + k)).toArray⟩) ∧ Below W.heap.size W w') fun e w' ⟨he, hb⟩ =>
        ⟨he, (hb.cell (p := ⟨g, o + k, none⟩) (World.block_lt_of_cell? W (a := ⟨g, o + k, none⟩) hW)).trans hW, hb⟩
      have HM := Lib.hid hmt
      clear hc hcell0 hx hmt
      generalize (⟨(markB (m + k)).toArray⟩ : ByteArray) = t at *
      have hself := str_eq_self t
      have hlt' : (k : Int) < (n : Int) := by omega
      go_wp2_with fail
      go_region_held3 (fun w' => w'.cell? ⟨g, o + k, none⟩ = some (.string t)) (go_keep)
        (first | (go_at_call 33; refine (HM.out _ ?_).mono ?_; (simp [*]); rintro e w1 ⟨rfl, hcell1, hb⟩))
      have hB2 : Below w.heap.size w w1 := hB.drew.trans (hb.mono hB.size)
      clear hb hB
      go_wp2
      go_roundw
      case rel => exact ⟨k + 1, by omega, by go_num, by go_num, hB2⟩
      case measure => simp [intOf]; omega
    · obtain rfl : k = n := by omega
      clear hx
      go_wp2
      go_ret
      exact ⟨rfl, hB⟩
end Go.Proofs.Ytgbnpdgehknfpaa.marks
