/- The contract of neighborTest and of the function value that it returns: a map of the edges, asked at a pair. -/
import Derived.Test.YtphlpipbhaiijaaEdges
import Derived.Maps.Views
import Derived.DeepKeys4
namespace Go.Proofs.Ytphlpipbhaiijaa.near
open Go.RowKit Go.Maps P2 words edges

theorem laidOut : laidOutB Try.prog = true := by kernel_rfl
theorem keyRow : 104 < Try.prog.types.size := of_decide_eq_true (by kernel_rfl)
theorem keyAt : Try.prog.keyTypeAt 2 104 = true := by kernel_rfl
theorem keyTy : Try.prog.keyType 104 = true := by kernel_rfl
theorem wideKey : (match Try.prog.underlying 104 with | some (.array _ _) | some (.struct _) => true | _ => false) = true := by kernel_rfl
set_option maxRecDepth 100000 in
theorem law : Keyed Try.prog 104 := Keyed.of_law (deep_law_laid laidOut (m := 2) (by omega) keyRow keyAt wideKey)
theorem zeroB (w : World) : (zeroValue 4).run Try.prog w = .ok (.bool false) w := by kernel_rfl

/-- an integer of 64 bits -/
def In64 (x : Int) : Prop := -9223372036854775808 ≤ x ∧ x ≤ 9223372036854775807
theorem wf64 {x : Int} (h : In64 x) : (Lit.int .i64 x).wf = true := WalkArith.wf_i64 h
/-- what a pair reads as, as a key -/
def kl (x y : Int) : Lit := .string (keyBytes [.int .i64 x, .int .i64 y])
theorem keyLits2 {x y : Int} (hx : In64 x) (hy : In64 y) (d : Nat) : Try.prog.keyLits (d + 2) 104 [.int .i64 x, .int .i64 y] = some [.int .i64 x, .int .i64 y] := by
  have hC : Try.prog.cellsOf 104 = 2 := by kernel_rfl
  have hC1 : Try.prog.cellsOf 3 = 1 := by kernel_rfl
  have h1 : ∀ z : Int, In64 z → Try.prog.keyLits (d + 1) 3 [.int .i64 z] = some [.int .i64 z] := fun z hz => by
    unfold Program.keyLits
    rw [Try.underlying3]
    simp [wf64 hz]
  unfold Program.keyLits
  rw [Try.underlying104]
  simp only [hC, hC1]
  have e2 : List.range 2 = [0, 1] := rfl
  rw [if_pos (show [Value.int .i64 x, Value.int .i64 y].length = 2 from rfl), e2]
  simp [h1 x hx, h1 y hy]
theorem hkey {x y : Int} (hx : In64 x) (hy : In64 y) : keyOf Try.prog 104 (.agg #[.int .i64 x, .int .i64 y]) = some (kl x y) := by
  have hC : Try.prog.cellsOf 104 = 2 := by kernel_rfl
  unfold keyOf
  rw [Try.underlying104]
  simp only [keyTy, Value.formed, Try.underlying104, hC]
  simp
  exact ⟨_, keyLits2 hx hy _, rfl⟩
theorem kl_inj {x y a b : Int} (hx : In64 x) (hy : In64 y) (ha : In64 a) (hb : In64 b) (h : kl x y = kl a b) : x = a ∧ y = b := by
  have h1 := hkey hx hy
  rw [h] at h1
  have := law.inj h1 (hkey ha hb)
  simpa using this

/-- the map holds just these edges -/
def MapIs (D : DataW Unit) (l : List Ed) : Prop := IsMap D ∧ ∀ x y : Int, In64 x → In64 y → D.atKey (kl x y) (.lit (.bool false)) = .lit (.bool (decide ((x, y) ∈ l)))
theorem mapIs_nil : MapIs (.map []) [] := ⟨isMap_empty, fun _ _ _ _ => by simp [DataW.atKey]⟩
theorem MapIs.put {D : DataW Unit} {l : List Ed} {a b : Int} (h : MapIs D l) (ha : In64 a) (hb : In64 b) : MapIs (D.put (kl a b) (.lit (.bool true))) (l ++ [(a, b)]) := by
  refine ⟨h.1.put _ _, fun x y hx hy => ?_⟩
  by_cases e : x = a ∧ y = b
  · obtain ⟨rfl, rfl⟩ := e
    rw [atKey_put_same h.1 (law.key (hkey hx hy))]
    simp
  · rw [atKey_put_other (fun hh => e (kl_inj hx hy ha hb hh)), h.2 x y hx hy]
    congr 2
    rw [decide_eq_decide, List.mem_append]
    simp [e]

set_option maxRecDepth 100000 in
theorem lookup_bool {w : World} {b n : Nat} {D : DataW Unit} {l : List Ed} {x y : Int} (h : w.ownsMap Try.prog 104 (plainElem Try.prog 4) b n D) (hD : MapIs D l) (hx : In64 x) (hy : In64 y) :
    (Instr.lookup 139 (.map (some b)) (.agg #[.int .i64 x, .int .i64 y]) false).run Try.prog w = .ok (.bool (decide ((x, y) ∈ l))) w := by
  obtain ⟨v, ps, hrun, hv⟩ := h.lookup law Try.underlying139 (zeroB w) (plainElem_bool Try.underlying4 false) (hkey hx hy)
  rw [hD.2 x y hx hy] at hv
  rw [hrun]
  unfold plainElem at hv
  rw [Try.underlying4] at hv
  cases v <;> simp at hv
  rw [hv.1]

/-- a name for a truth value, so that the walk leaves it alone -/
def Tag (b : Bool) : Bool := b
/-- block c is a variable that holds a map of these edges -/
def NearIs (w : World) (c : Nat) (l : List Ed) : Prop :=
  ∃ b n D, w.cell? ⟨c, 0, none⟩ = some (.map (some b)) ∧ w.ownsMap Try.prog 104 (plainElem Try.prog 4) b n D ∧ MapIs D l
theorem NearIs.below {w w' : World} {c : Nat} {l : List Ed} (h : NearIs w c l) (hb : Below w.heap.size w w') : NearIs w' c l := by
  obtain ⟨b, n, D, h1, h2, h3⟩ := h
  exact ⟨b, n, D, (hb.cell (p := ⟨c, 0, none⟩) (World.block_lt_of_cell? w (a := ⟨c, 0, none⟩) h1)).trans h1, h2.kept (gof hb none) (by simp), h3⟩

set_option maxRecDepth 100000 in
theorem near_any (x y : Int) (c : Nat) (l : List Ed) (w : World) (h : NearIs w c l) (hx : In64 x) (hy : In64 y) :
    Calls Try.prog 159 #[.int .i64 x, .int .i64 y, .pointer (some ⟨c, 0, none⟩)] w fun e w' => e = .returned (.bool (decide ((min x y, max x y) ∈ l))) ∧ w = w' := by
  obtain ⟨b, n, D, h1, h2, h3⟩ := h
  have hm1 : In64 (min x y) := by unfold In64 at *; omega
  have hm2 : In64 (max x y) := by unfold In64 at *; omega
  have hl := lookup_bool h2 h3 hm1 hm2
  have HL : Hid (Tag (decide ((min x y, max x y) ∈ l)) = decide ((min x y, max x y) ∈ l)) := rfl
  rw [← HL.out] at hl ⊢
  generalize Tag (decide ((min x y, max x y) ∈ l)) = r at hl ⊢
  clear h2 h3 hm1 hm2 hx hy HL
  rcases Int.lt_trichotomy x y with h | h | h
  · rw [Int.min_eq_left (by omega), Int.max_eq_right (by omega)] at hl
    go_enter Try.func159, Try.ntmps159
    go_wp2_with fail
    go_ret
    exact ⟨rfl, rfl⟩
  · subst h
    rw [Int.min_self, Int.max_self] at hl
    go_enter Try.func159, Try.ntmps159
    go_wp2_with fail
    go_ret
    exact ⟨rfl, rfl⟩
  · rw [Int.min_eq_right (by omega), Int.max_eq_left (by omega)] at hl
    go_enter Try.func159, Try.ntmps159
    go_wp2_with fail
    go_ret
    exact ⟨rfl, rfl⟩

theorem run_makeMap_hint {P : Program} (t k e : TypeId) (kd : IntKind) (n : Int) (ht : P.underlying t = some (.map k e)) (w : World) :
    (Instr.makeMap t (some (.int kd n))).run P w = .ok (.map (some w.heap.size)) (w.alloc (.map #[] 0)) := by
  simp [Instr.makeMap, run_underlying ht]; rfl

set_option maxHeartbeats 1000000 in
set_option maxRecDepth 100000 in
theorem neighborTest_any (s : Int) (v : Value) (l : List Ed) (w : World) (h : Edges w v l) (hl : l.length ≤ 1048576) (hin : ∀ e ∈ l, In64 e.1 ∧ In64 e.2) :
    Calls Try.prog 123 #[.agg #[.int .i64 s, v]] w fun e w' => ∃ c, e = .returned (.func (.func 159) #[] #[.pointer (some ⟨c, 0, none⟩)]) ∧ NearIs w' c l ∧ Below w.heap.size w w' := by
  have hb0 := (Below.refl w.heap.size w).alloc (Nat.le_refl _) (.cells #[.int .i64 s, v] 29)
  have hx0 := Blk.new w 29 #[.int .i64 s, v]
  obtain ⟨A, c, rfl, hc⟩ := h.form
  have HC := Lib.hid hc
  have HI := Lib.hid hin
  have hmm := fun (w : World) (n : Int) => run_makeMap_hint (P := Try.prog) 139 104 4 .i64 n Try.underlying139 w
  have hmf : ∀ (fn : Fn) (first cap : Array Value) (w : World), (Instr.makeFunc fn first cap).run Try.prog w = .ok (.func fn first cap) w := fun _ _ _ _ => rfl
  clear h hc hin
  go_enter Try.func123, Try.ntmps123
  go_wp2_with fail
  go_loopw [13] (fun i wr => ∃ (k : Nat) (D : DataW Unit), k ≤ l.length ∧ i = .int .i64 (k : Int) ∧ Blk wr (w.heap.size + 1 + 1) 139 #[.map (some (w.heap.size + 1))] ∧ wr.ownsMap Try.prog 104 (plainElem Try.prog 4) (w.heap.size + 1) k D ∧ MapIs D (l.take k) ∧ Below w.heap.size w wr) (fun i _ => l.length - (intOf i).toNat)
  case atStart =>
    refine ⟨0, .map [], Nat.zero_le _, rfl, ?_, ?_, by simpa using mapIs_nil, ((hb0.alloc (by simp) _).alloc (by simp; omega) _)⟩
    · simpa using Blk.new ((w.alloc (.cells #[.int .i64 s, .slice A l.length c] 29)).alloc (.map #[] 0)) 139 #[.map (some (w.heap.size + 1))]
    · have := (World.ownsMap_made (H := Unit) (w.alloc (.cells #[.int .i64 s, .slice A l.length c] 29)) Try.prog 104 (plainElem Try.prog 4)).alloc (.cells #[.map (some (w.heap.size + 1))] 139)
      simpa using this
  case round =>
    obtain ⟨k, D, hk, rfl, hbk, hown, hD, hB⟩ := hrel
    have hs2 := hbk.lt
    obtain ⟨p0, z0⟩ := hbk.one
    have HBK := Lib.hid hbk
    clear hbk
    by_cases hlt : k < l.length
    · obtain ⟨x, hx⟩ : ∃ x, l[k]? = some x := ⟨_, List.getElem?_eq_getElem hlt⟩
      obtain ⟨g, o, rfl, c0, c1⟩ := HC.out k x hx
      have hlt' : (k : Int) < (l.length : Int) := by omega
      have q0 : wr.cell? ⟨g, o + k * 2, none⟩ = some (.int .i64 x.1) := (hB.cell (p := ⟨g, o + k * 2, none⟩) (World.block_lt_of_cell? w (a := ⟨g, o + k * 2, none⟩) c0)).trans c0
      have q1 : wr.cell? ⟨g, o + k * 2 + 1, none⟩ = some (.int .i64 x.2) := (hB.cell (p := ⟨g, o + k * 2 + 1, none⟩) (World.block_lt_of_cell? w (a := ⟨g, o + k * 2 + 1, none⟩) c1)).trans c1
      have hm := HI.out x (List.mem_of_getElem? hx)
      obtain ⟨a, b⟩ := x
      have HT : Hid (l.take (k + 1) = l.take k ++ [(a, b)]) := by show _ = _; rw [List.take_add_one, hx]; rfl
      have HD := Lib.hid (hD.put hm.1 hm.2)
      have HK := Lib.hid (hkey hm.1 hm.2)
      clear hx c0 c1 hm hD
      go_wp2_with (at_mapUpdate; refine wpList_mapUpdate_own _ rfl _ _ _ 139 rfl 104 4 law Try.underlying139 _ (w.heap.size + 1) k _ rfl (hown.alloc _) (by unfold maxLen; omega) _ _ _ rfl rfl HK.out _ [] (plainElem_bool Try.underlying4 true) ?_; intro w1 hown1 hgrow1)
      have hbk1 := Lib.hid ((HBK.out.alloc (.cells #[.int .i64 a, .int .i64 b] 104)).grown hgrow1 (by simp))
      have hB1 : Below w.heap.size w w1 := (hB.alloc (by omega) _).grown hgrow1 (by simp; omega) (fun j e => by simp at e; omega)
      clear hgrow1
      go_roundw
      case rel => exact ⟨k + 1, _, by omega, by go_num, hbk1.out, hown1, by rw [HT.out]; exact HD.out, hB1⟩
      case measure => simp [intOf]; omega
    · obtain rfl : k = l.length := by omega
      rw [List.take_length] at hD
      go_wp2_with fail
      go_ret
      exact ⟨w.heap.size + 1 + 1, rfl, ⟨w.heap.size + 1, _, D, p0, hown, hD⟩, hB⟩
end Go.Proofs.Ytphlpipbhaiijaa.near
