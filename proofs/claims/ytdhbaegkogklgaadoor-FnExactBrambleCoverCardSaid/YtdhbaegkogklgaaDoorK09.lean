/- The contracts of the model's l3Sign and l1Own. -/
import Derived.Handy
import Derived.Test.YtdhbaegkogklgaaDoorK02
import Derived.Test.YtdhbaegkogklgaaDoorK05
import Derived.Test.YtdhbaegkogklgaaDoorK03
import Derived.Test.YtdhbaegkogklgaaDoorK08
import Derived.Test.YtdhbaegkogklgaaDoorK06
import Derived.Test.YtdhbaegkogklgaaDoorK04
import Derived.Deep.DeepCutAuto
import Derived.Deep.RegionHeld3
import Derived.Test.YtdhbaegkogklgaaDoorK07
import Derived.Maps.AppendAt
import Derived.StillTailTactics
import Derived.Laws.CopyOwn
import Derived.Deep.RegionLaw
namespace Go.Proofs.YtdhbaegkogklgaaDoor.times
open Go.RowKit P2 words edges ints good adjs fns sets rets apps
set_option linter.unusedVariables false

set_option maxHeartbeats 1000000 in
theorem l1Own_any (u : Value) (xs : List Int) (w : World) (hu : Ints w u xs) (hxl : xs.length ≤ 1048576) : Calls Tryd.prog 58 #[u] w (RowI w xs) := by
  obtain ⟨i0, hi, hz0, hz1, hz2⟩ := info_parts infoInt
  obtain ⟨A2, c2, rfl, -⟩ := hu.form
  have HR : Hid (Ints (w.alloc (.cells #[] 3)) (.slice A2 xs.length c2) xs) := hu.below ((Below.refl _ _).alloc (Nat.le_refl _) _)
  have HO := Lib.hid (own_new0 w 3 1)
  have HB : Hid (Below w.heap.size w (w.alloc (.cells #[] 3))) := (Below.refl _ _).alloc (Nat.le_refl _) _
  have hcl : Hid ((cellsI xs).length = xs.length * 1) := by show _ = _; simp [cellsI]
  clear hu
  go_enter Tryd.func58, Tryd.ntmps58
  go_wp2_with (at_builtin; refine wpList_append_any _ rfl (.tmp 3) (.tmp 4) 25 rfl w.heap.size 3 i0 (.int .i64 0) 1 8 Tryd.underlying25 hi hz0 hz1 hz2 rfl (by decide) _ _ _ rfl HO.out (.slice A2 xs.length c2) xs.length (cellsI xs) rfl HR.out hcl.out (oneI _) (by unfold maxLen; omega) (by omega) (by simp) ?_; intro v2 w4 o4 gr4)
  rw [Nat.zero_add, List.nil_append] at o4
  obtain ⟨A4, c4, rfl⟩ := own_form o4
  have HB4 := Lib.hid (HB.out.grown gr4 (by simp) (fun j e => (HO.out.lt j e).1))
  have HO4 := Lib.hid o4
  clear gr4 o4
  go_wp2_with fail
  go_ret
  exact ⟨A4, c4, by simp, HO4.out, HB4.out⟩
end Go.Proofs.YtdhbaegkogklgaaDoor.times

/- The contracts of the model's l8Number, l8Inside, l8Spread, SpreadOf and IsStopping. -/
namespace Go.Proofs.YtdhbaegkogklgaaDoor.ups
open Go.RowKit P2 words edges ints good adjs fns sets rets covs bags balls bitsI func
set_option linter.unusedVariables false

theorem inB_num {k : Int} (h : 1 ≤ k ∧ k ≤ 8) : inB k 1 8 = true := by unfold inB; exact decide_eq_true h
theorem inB_non {k : Int} (h : ¬ (1 ≤ k ∧ k ≤ 8)) : inB k 1 8 = false := by unfold inB; exact decide_eq_false h
/-- how many of the first k numbers of a list are neighbors -/
def inK (l : List Ed) (xs : List Int) (x : Int) (k : Nat) : Nat := ((xs.take k).filter fun y => adj l y x).length
theorem inK_yes {l : List Ed} {xs : List Int} {x y : Int} {k : Nat} (h : xs[k]? = some y) (ha : adj l y x = true) : inK l xs x (k + 1) = inK l xs x k + 1 := by
  unfold inK
  rw [List.take_add_one, h, List.filter_append, List.length_append]
  simp [ha]
theorem inK_no {l : List Ed} {xs : List Int} {x y : Int} {k : Nat} (h : xs[k]? = some y) (ha : adj l y x = false) : inK l xs x (k + 1) = inK l xs x k := by
  unfold inK
  rw [List.take_add_one, h, List.filter_append, List.length_append]
  simp [ha]
theorem inK_len (l : List Ed) (xs : List Int) (x : Int) (k : Nat) : inK l xs x k ≤ k := by
  unfold inK
  exact Nat.le_trans (List.length_filter_le _ _) (by rw [List.length_take]; omega)
def inC (l : List Ed) (xs : List Int) (x : Int) : Nat := (xs.filter fun y => adj l y x).length
theorem inK_all (l : List Ed) (xs : List Int) (x : Int) : inK l xs x xs.length = inC l xs x := by unfold inK inC; rw [List.take_length]
theorem inC_nw (l : List Ed) (d n x : Nat) : inC l (nw (bitB d) n) (x : Int) = (nw (fun y => bitB d y && adj l (y : Int) (x : Int)) n).length := by
  unfold inC nw
  rw [List.filter_map, List.length_map, List.length_map, List.filter_filter]
  congr 1
  exact List.filter_congr fun z _ => by simp [Bool.and_comm]
theorem put_bits {n d x : Nat} {L : List Int} (h : PutI (nw (bitB d) n) (x : Int) L) (hx : x < n) : L = nw (bitB (d ||| 2 ^ x)) n :=
  asc_ext h.1 (nw_asc _ _) fun e => by
    rw [h.2.1 e, mem_nw, mem_nw]
    constructor
    · rintro (rfl | ⟨j, hj, hp, rfl⟩)
      · exact ⟨x, hx, by unfold bitB; rw [put_bit]; simp, rfl⟩
      · exact ⟨j, hj, by unfold bitB at hp ⊢; rw [put_bit, hp]; rfl, rfl⟩
    · rintro ⟨j, hj, hp, rfl⟩
      unfold bitB at hp
      rw [put_bit, Bool.or_eq_true, decide_eq_true_iff] at hp
      rcases hp with hp | rfl
      · exact .inr ⟨j, hj, hp, rfl⟩
      · exact .inl rfl
/-- what holds in a round behind the first x nodes -/
def SprR (n : Nat) (l : List Ed) (r R d x : Nat) : Prop := R + 1 ≤ onesN d ∨ ((∀ j, j < x → ¬ AddS n l r d j) ∧ (Stops n l r d ∨ R ≤ onesN d))
def SprO (n : Nat) (l : List Ed) (r R d : Nat) : Prop := Stops n l r d ∨ R ≤ onesN d
theorem SprO.start {n : Nat} {l : List Ed} {r R d : Nat} (h : SprO n l r R d) : SprR n l r R d 0 := .inr ⟨fun j hj => by omega, h⟩
theorem SprR.done {n : Nat} {l : List Ed} {r R d : Nat} (h : SprR n l r R d n) : SprO n l r (R + 1) d := by
  rcases h with h | ⟨h, _⟩
  · exact .inr h
  · exact .inl fun x hx => h x hx.1 hx
theorem SprR.keep {n : Nat} {l : List Ed} {r R d x : Nat} (h : SprR n l r R d x) (hx : ¬ AddS n l r d x) : SprR n l r R d (x + 1) := by
  rcases h with h | ⟨h, h2⟩
  · exact .inl h
  · refine .inr ⟨fun j hj => ?_, h2⟩
    by_cases e : j = x
    · subst e; exact hx
    · exact h j (by omega)
theorem SprR.add {n : Nat} {l : List Ed} {r R d x : Nat} (h : SprR n l r R d x) (hx : AddS n l r d x) (hd : d < 256) (hn : n ≤ 8) : SprR n l r R (d ||| 2 ^ x) (x + 1) := by
  have ho := ones_put hd (show x < 8 by have := hx.1; omega) hx.2.1
  refine .inl ?_
  rcases h with h | ⟨_, h | h⟩
  · omega
  · exact absurd hx (h x)
  · omega
theorem SprO.all {n : Nat} {l : List Ed} {r d : Nat} (h : SprO n l r n d) (hn : n ≤ 8) (hd : d < 2 ^ n) : Stops n l r d := by
  rcases h with h | h
  · exact h
  · have hd8 := Nat.lt_of_lt_of_le hd (pow_le hn)
    have h1 := ones_top ⟨n, by omega⟩ ⟨d, hd8⟩ hd
    have h2 := (ones_full ⟨n, by omega⟩ ⟨d, hd8⟩ hd).1 (by simp only at h1 ⊢; omega)
    exact full_stops h2
theorem setOk_code {n : Nat} {l : List Ed} {xs : List Int} (h : SetOk (n : Int) l xs) : xs = nw (bitB (codeL xs)) n := set_code h.2.2 h.2.1
theorem out_code {n : Nat} {l : List Ed} {d x : Nat} (hg : P2.Good (n : Int) l) (hn : n ≤ 8) (hx : d.testBit x = true) : (nw (fun y => adj l (x : Int) (y : Int)) n).length = inC l (nw (bitB d) n) (x : Int) + onesN (outN l n d x) := by
  rw [inC_nw]
  exact out_len hg hn hx _ fun z _ => rfl
theorem spr_len (s : Int) (l : List Ed) (xs : List Int) (r : Int) : (inG (SpOk s l xs r) (sprL s l xs r)).length ≤ 1048576 := inG_len fun _ => by
  unfold sprL ndN
  have := nw_len (bitB (spN s.toNat l r.toNat (codeL xs))) 8
  omega
end Go.Proofs.YtdhbaegkogklgaaDoor.ups

/- The contract of the model's l5Later. -/
namespace Go.Proofs.YtdhbaegkogklgaaDoor.bags
open Go.RowKit P2 words edges ints good adjs fns sets apps covs neigh balls reach
set_option linter.unusedVariables false

theorem apart_or {u v : Value} (h : ∀ k, u.ownBlock = some k → v.ownBlock ≠ some k) : v.ownBlock = none ∨ v.ownBlock ≠ u.ownBlock := by
  cases hv : v.ownBlock with
  | none => exact .inl rfl
  | some q => exact .inr fun e => h q e.symm hv
theorem apart_grow {u u' v : Value} {H : Nat} (h : ∀ k, u.ownBlock = some k → v.ownBlock ≠ some k) (hl : u'.ownBlock = u.ownBlock ∨ u'.ownBlock = some H) (hv : ∀ k, v.ownBlock = some k → k < H) : ∀ k, u'.ownBlock = some k → v.ownBlock ≠ some k := fun k hk hk' => by
  rcases hl with e | e
  · exact h k (e.symm.trans hk) hk'
  · rw [e] at hk
    cases hk
    exact Nat.lt_irrefl _ (hv _ hk')
def nodesL (S : List Nat) : List Int := S.map fun x : Nat => (x : Int)
theorem mem_nodesL {S : List Nat} {y : Nat} : (y : Int) ∈ nodesL S ↔ y ∈ S := by
  unfold nodesL
  rw [List.mem_map]
  constructor
  · rintro ⟨z, hz, e⟩
    obtain rfl : z = y := by omega
    exact hz
  · intro h; exact ⟨y, h, rfl⟩
theorem nodesL_len (S : List Nat) : (nodesL S).length = S.length := by simp [nodesL]
theorem nodesL_at {S : List Nat} {k z : Nat} (h : S[k]? = some z) : (nodesL S)[k]? = some (z : Int) := by simp [nodesL, h]
theorem nodesL_app (S : List Nat) (y : Nat) : nodesL (S ++ [y]) = nodesL S ++ [(y : Int)] := by simp [nodesL]
def goneB (gl : List Int) (z : Nat) : Bool := decide ((z : Int) ∈ gl)
theorem nw_none (n : Nat) : nw (fun _ => false) n = [] := by
  induction n with
  | zero => rfl
  | succ n ih => rw [nw_no rfl, ih]

end Go.Proofs.YtdhbaegkogklgaaDoor.bags

/- Fronts of sets: plain mathematics. -/
namespace Go.Proofs.YtdhbaegkogklgaaDoor.fronts
open Go.RowKit P2 words edges ints fns sets covs reach bags
set_option linter.unusedVariables false

/-- a node of the front of a set -/
def frontB (l : List Ed) (n : Nat) (S : Nat → Bool) (x : Nat) : Bool := S x && (List.range n).any fun y => !S y && adj l x y
theorem frontB_iff {l : List Ed} {n : Nat} {S : Nat → Bool} {x : Nat} : frontB l n S x = true ↔ S x = true ∧ ∃ y, y < n ∧ S y = false ∧ adj l x y = true := by
  unfold frontB
  rw [Bool.and_eq_true, List.any_eq_true]
  simp only [List.mem_range, Bool.and_eq_true, Bool.not_eq_true']
theorem frontB_congr {l : List Ed} {n : Nat} {S T : Nat → Bool} (h : ∀ z, z < n → S z = T z) {x : Nat} (hx : x < n) : frontB l n S x = frontB l n T x := by
  rw [Bool.eq_iff_iff, frontB_iff, frontB_iff, h x hx]
  constructor
  · rintro ⟨h1, y, hy, h2, h3⟩; exact ⟨h1, y, hy, by rw [← h y hy]; exact h2, h3⟩
  · rintro ⟨h1, y, hy, h2, h3⟩; exact ⟨h1, y, hy, by rw [h y hy]; exact h2, h3⟩
/-- as the program reckons it -/
theorem front_bits {l : List Ed} {n : Nat} {S : Nat → Bool} {z : Nat} (hz : z < n) : (arB l n (numOf (fun y => !S y) n) z && S z) = frontB l n S z := by
  rw [Bool.eq_iff_iff, Bool.and_eq_true, arB_iff, frontB_iff]
  constructor
  · rintro ⟨⟨x, hx, hb, he⟩, hs⟩
    rw [numOf_bit, Bool.and_eq_true] at hb
    have hb2 : S x = false := by have := hb.2; simpa using this
    refine ⟨hs, x, hx, hb2, ?_⟩
    rcases he with rfl | he
    · rw [hs] at hb2; cases hb2
    · rw [adj_comm]; exact he
  · rintro ⟨hs, y, hy, hb, he⟩
    refine ⟨⟨y, hy, ?_, .inr (by rw [adj_comm]; exact he)⟩, hs⟩
    rw [numOf_bit]; simp [hy, hb]
/-- the front of a list, found by the first i of its nodes and k nodes for the next one -/
def FrK (n : Nat) (l : List Ed) (xs : List Int) (i k : Nat) (p : Nat → Bool) : Prop :=
  ∀ z, z < n → (p z = true ↔ (∃ j, j < i ∧ xs[j]? = some (z : Int) ∧ ∃ y : Nat, y < n ∧ goneB xs y = false ∧ adj l z y = true) ∨ (xs[i]? = some (z : Int) ∧ ∃ y : Nat, y < k ∧ goneB xs y = false ∧ adj l z y = true))
section
variable {n : Nat} {l : List Ed} {xs : List Int} {i k : Nat} {p : Nat → Bool}
theorem FrK.start (n : Nat) (l : List Ed) (xs : List Int) : FrK n l xs 0 0 (fun _ => false) := fun z _ => by
  constructor
  · intro h; cases h
  · rintro (⟨j, hj, _⟩ | ⟨_, y, hy, _⟩) <;> omega
theorem FrK.next (h : FrK n l xs i n p) : FrK n l xs (i + 1) 0 p := fun z hz => by
  rw [h z hz]
  constructor
  · rintro (⟨j, hj, h1, h2⟩ | ⟨h1, h2⟩)
    · exact .inl ⟨j, by omega, h1, h2⟩
    · exact .inl ⟨i, by omega, h1, h2⟩
  · rintro (⟨j, hj, h1, h2⟩ | ⟨_, y, hy, _⟩)
    · by_cases e : j = i
      · subst e; exact .inr ⟨h1, h2⟩
      · exact .inl ⟨j, by omega, h1, h2⟩
    · omega
theorem FrK.put {x : Nat} (h : FrK n l xs i k p) (hx : xs[i]? = some (x : Int)) (hg : goneB xs k = false) (ha : adj l x k = true) (hk : k < n) : FrK n l xs i (k + 1) (pput p x) := fun z hz => by
  unfold pput
  rw [Bool.or_eq_true, decide_eq_true_iff, h z hz]
  constructor
  · rintro ((h1 | ⟨h1, y, hy, h2⟩) | rfl)
    · exact .inl h1
    · exact .inr ⟨h1, y, by omega, h2⟩
    · exact .inr ⟨hx, k, by omega, hg, ha⟩
  · rintro (h1 | ⟨h1, y, hy, h2⟩)
    · exact .inl (.inl h1)
    · rw [hx] at h1
      have : (x : Int) = (z : Int) := by simpa using h1
      exact .inr (by omega)
theorem FrK.skip {x : Nat} (h : FrK n l xs i k p) (hx : xs[i]? = some (x : Int)) (hn : goneB xs k = true ∨ adj l x k = false) : FrK n l xs i (k + 1) p := fun z hz => by
  rw [h z hz]
  constructor
  · rintro (h1 | ⟨h1, y, hy, h2⟩)
    · exact .inl h1
    · exact .inr ⟨h1, y, by omega, h2⟩
  · rintro (h1 | ⟨h1, y, hy, h2, h3⟩)
    · exact .inl h1
    · refine .inr ⟨h1, y, ?_, h2, h3⟩
      by_cases e : y = k
      · subst e
        rw [hx] at h1
        have e2 : (x : Int) = (z : Int) := by simpa using h1
        rcases hn with hn | hn
        · rw [hn] at h2; cases h2
        · rw [e2, h3] at hn; cases hn
      · omega
theorem FrK.all (h : FrK n l xs xs.length 0 p) : nw p n = nw (frontB l n (goneB xs)) n := reach.nw_congr fun z hz => by
  rw [Bool.eq_iff_iff, h z hz, frontB_iff]
  constructor
  · rintro (⟨j, _, h1, h2⟩ | ⟨_, y, hy, _⟩)
    · exact ⟨decide_eq_true (List.mem_of_getElem? h1), h2⟩
    · omega
  · rintro ⟨h1, h2⟩
    obtain ⟨j, hj⟩ := List.getElem?_of_mem (of_decide_eq_true h1)
    exact .inl ⟨j, (List.getElem?_eq_some_iff.1 hj).1, hj, h2⟩
end
/-- a list as a number -/
theorem code_gone {xs : List Int} {n : Nat} (h : ∀ x ∈ xs, 0 ≤ x ∧ x < (n : Int)) : codeL xs = numOf (goneB xs) n := by
  apply Nat.eq_of_testBit_eq
  intro i
  rw [code_bit (fun x hx => (h x hx).1), numOf_bit]
  unfold goneB
  by_cases hi : i < n
  · simp [hi]
  · have : ¬ (i : Int) ∈ xs := fun hm => by have := h _ hm; omega
    simp [hi, this]
end Go.Proofs.YtdhbaegkogklgaaDoor.fronts

/- Least costs over all orders, forwards and backwards: plain mathematics. -/
namespace Go.Proofs.YtdhbaegkogklgaaDoor.costs
open Go.RowKit P2 words edges ints good adjs fns sets rets covs reach bags bitsI fronts
set_option linter.unusedVariables false

theorem or_all : ∀ (d : Fin 256) (x : Fin 8), d.1.testBit x.1 = false → (d.1 ||| 2 ^ x.1) = d.1 + 2 ^ x.1 ∧ (d.1 ||| 2 ^ x.1).testBit x.1 = true := by decide +kernel
theorem sub_all : ∀ (d : Fin 256) (x : Fin 8), d.1.testBit x.1 = true → 2 ^ x.1 ≤ d.1 ∧ (d.1 - 2 ^ x.1).testBit x.1 = false := by decide +kernel
theorem bit_out : ∀ (n : Fin 9) (c : Fin 256), c.1 < 2 ^ n.1 - 1 → ∃ x : Fin 8, x.1 < n.1 ∧ c.1.testBit x.1 = false := by decide +kernel
theorem bit_in : ∀ (n : Fin 9) (c : Fin 256), c.1 < 2 ^ n.1 → c.1 ≠ 0 → ∃ x : Fin 8, x.1 < n.1 ∧ c.1.testBit x.1 = true := by decide +kernel
theorem pow8 {n : Nat} (hn : n ≤ 8) : 2 ^ n ≤ 256 := by have := Nat.pow_le_pow_right (show 0 < 2 by decide) hn; simpa using this
theorem or_is {d x : Nat} (hd : d < 256) (hx : x < 8) (h : d.testBit x = false) : d ||| 2 ^ x = d + 2 ^ x := (or_all ⟨d, hd⟩ ⟨x, hx⟩ h).1
theorem or_bit {d x : Nat} (hd : d < 256) (hx : x < 8) (h : d.testBit x = false) : (d ||| 2 ^ x).testBit x = true := (or_all ⟨d, hd⟩ ⟨x, hx⟩ h).2
theorem sub_le {d x : Nat} (hd : d < 256) (hx : x < 8) (h : d.testBit x = true) : 2 ^ x ≤ d := (sub_all ⟨d, hd⟩ ⟨x, hx⟩ h).1
theorem sub_bit {d x : Nat} (hd : d < 256) (hx : x < 8) (h : d.testBit x = true) : (d - 2 ^ x).testBit x = false := (sub_all ⟨d, hd⟩ ⟨x, hx⟩ h).2
theorem or_lt {n d x : Nat} (hd : d < 2 ^ n) (hx : x < n) : d ||| 2 ^ x < 2 ^ n := Nat.or_lt_two_pow hd (Nat.pow_lt_pow_right (by decide) hx)
theorem or_gt {d x : Nat} (hd : d < 256) (hx : x < 8) (h : d.testBit x = false) : d < d ||| 2 ^ x := by rw [or_is hd hx h]; have := Nat.two_pow_pos x; omega
theorem sub_or {d x : Nat} (hd : d < 256) (hx : x < 8) (h : d.testBit x = true) : (d - 2 ^ x) ||| 2 ^ x = d := by
  have := sub_le hd hx h
  rw [or_is (Nat.lt_of_le_of_lt (Nat.sub_le _ _) hd) hx (sub_bit hd hx h)]; exact Nat.sub_add_cancel this
theorem out_bit {n c : Nat} (hn : n ≤ 8) (hc : c < 2 ^ n - 1) : ∃ x, x < n ∧ c.testBit x = false := by
  have := pow8 hn
  obtain ⟨x, h1, h2⟩ := bit_out ⟨n, by omega⟩ ⟨c, by omega⟩ hc
  exact ⟨x.1, h1, h2⟩
theorem in_bit {n c : Nat} (hn : n ≤ 8) (hc : c < 2 ^ n) (h0 : c ≠ 0) : ∃ x, x < n ∧ c.testBit x = true := by
  have := pow8 hn
  obtain ⟨x, h1, h2⟩ := bit_in ⟨n, by omega⟩ ⟨c, by omega⟩ hc h0
  exact ⟨x.1, h1, h2⟩

/-- from one set to another one, node by node, each one at a cost of at most u -/
inductive Ch (n : Nat) (cost : Nat → Nat → Int) (u : Int) : Nat → Nat → Prop
  | refl (c : Nat) : Ch n cost u c c
  | step {c d x : Nat} : Ch n cost u c d → x < n → d.testBit x = false → cost d x ≤ u → Ch n cost u c (d ||| 2 ^ x)
theorem Ch.trans {n : Nat} {cost : Nat → Nat → Int} {u : Int} {a b c : Nat} (h1 : Ch n cost u a b) (h2 : Ch n cost u b c) : Ch n cost u a c := by
  induction h2 with
  | refl => exact h1
  | step _ hx hb hc ih => exact .step ih hx hb hc
theorem Ch.head {n : Nat} {cost : Nat → Nat → Int} {u : Int} {c d : Nat} (h : Ch n cost u c d) : c = d ∨ ∃ x, x < n ∧ c.testBit x = false ∧ cost c x ≤ u ∧ Ch n cost u (c ||| 2 ^ x) d := by
  induction h with
  | refl => exact .inl rfl
  | step _ hx hb hc ih =>
    refine .inr ?_
    rcases ih with rfl | ⟨y, h1, h2, h3, h4⟩
    · exact ⟨_, hx, hb, hc, .refl _⟩
    · exact ⟨y, h1, h2, h3, .step h4 hx hb hc⟩

/-- the least costs of what is left, for each set that is gone -/
def LcAt (n : Nat) (cost : Nat → Nat → Int) (C : Nat → Int) (c : Nat) : Prop :=
  (∃ x, x < n ∧ c.testBit x = false ∧ C c = max (cost c x) (C (c ||| 2 ^ x))) ∧ ∀ x, x < n → c.testBit x = false → C c ≤ max (cost c x) (C (c ||| 2 ^ x))
theorem lc_ch {n : Nat} {cost : Nat → Nat → Int} {C : Nat → Int} {nil : Int} (hn : n ≤ 8) (hfull : C (2 ^ n - 1) = nil) (h : ∀ c, c < 2 ^ n - 1 → LcAt n cost C c) {u : Int} (hu : nil ≤ u) :
    ∀ k c, c < 2 ^ n → 2 ^ n - 1 - c ≤ k → (C c ≤ u ↔ Ch n cost u c (2 ^ n - 1)) := by
  have hp := pow8 hn
  have hp0 := Nat.two_pow_pos n
  intro k
  induction k with
  | zero =>
    intro c hc hk
    obtain rfl : c = 2 ^ n - 1 := by omega
    rw [hfull]
    exact ⟨fun _ => .refl _, fun _ => hu⟩
  | succ k ih =>
    intro c hc hk
    by_cases e : c = 2 ^ n - 1
    · subst e
      rw [hfull]
      exact ⟨fun _ => .refl _, fun _ => hu⟩
    · obtain ⟨⟨x, hx, hb, hC⟩, hle⟩ := h c (by omega)
      have hstep : ∀ y, y < n → c.testBit y = false → (C (c ||| 2 ^ y) ≤ u ↔ Ch n cost u (c ||| 2 ^ y) (2 ^ n - 1)) := fun y hy hby =>
        ih _ (or_lt hc hy) (by have := or_gt (x := y) (by omega : c < 256) (by omega) hby; omega)
      constructor
      · intro hcu
        rw [hC] at hcu
        have h1 : cost c x ≤ u := by omega
        have h2 : C (c ||| 2 ^ x) ≤ u := by omega
        exact (Ch.step (.refl c) hx hb h1).trans ((hstep x hx hb).1 h2)
      · intro hch
        rcases hch.head with rfl | ⟨y, hy, hby, hcy, h4⟩
        · exact absurd rfl e
        · have := hle y hy hby
          have := (hstep y hy hby).2 h4
          omega
/-- the least costs up to each set -/
def WAt (n : Nat) (cost : Nat → Nat → Int) (W : Nat → Int) (d : Nat) : Prop :=
  (∃ x, x < n ∧ d.testBit x = true ∧ W d = max (cost (d - 2 ^ x) x) (W (d - 2 ^ x))) ∧ ∀ x, x < n → d.testBit x = true → W d ≤ max (cost (d - 2 ^ x) x) (W (d - 2 ^ x))
theorem w_ch {n : Nat} {cost : Nat → Nat → Int} {W : Nat → Int} {nil : Int} (hn : n ≤ 8) (h0 : W 0 = nil) (h : ∀ d, d < 2 ^ n → d ≠ 0 → WAt n cost W d) {u : Int} (hu : nil ≤ u) :
    ∀ k d, d < 2 ^ n → d ≤ k → (W d ≤ u ↔ Ch n cost u 0 d) := by
  have hp := pow8 hn
  intro k
  induction k with
  | zero =>
    intro d hd hk
    obtain rfl : d = 0 := by omega
    rw [h0]
    exact ⟨fun _ => .refl _, fun _ => hu⟩
  | succ k ih =>
    intro d hd hk
    by_cases e : d = 0
    · subst e
      rw [h0]
      exact ⟨fun _ => .refl _, fun _ => hu⟩
    · obtain ⟨⟨x, hx, hb, hW⟩, hle⟩ := h d hd e
      have hstep : ∀ y, y < n → d.testBit y = true → (W (d - 2 ^ y) ≤ u ↔ Ch n cost u 0 (d - 2 ^ y)) := fun y hy hby =>
        ih _ (Nat.lt_of_le_of_lt (Nat.sub_le _ _) hd) (by have := Nat.sub_lt (Nat.pos_of_ne_zero e) (Nat.two_pow_pos y); omega)
      constructor
      · intro hdu
        rw [hW] at hdu
        have h1 : cost (d - 2 ^ x) x ≤ u := by omega
        have h2 : W (d - 2 ^ x) ≤ u := by omega
        have h3 := Ch.step ((hstep x hx hb).1 h2) hx (sub_bit (by omega) (by omega) hb) h1
        rwa [sub_or (by omega) (by omega) hb] at h3
      · intro hch
        generalize hz : (0 : Nat) = z at hch
        cases hch with
        | refl => exact absurd hz.symm e
        | @step e2 y hc hy hby hcy =>
          subst hz
          have he : e2 < 256 := by
            have : e2 ≤ e2 ||| 2 ^ y := Nat.left_le_or
            omega
          have h1 : (e2 ||| 2 ^ y) - 2 ^ y = e2 := by rw [or_is he (by omega) hby]; exact Nat.add_sub_cancel _ _
          have h2 := or_bit he (by omega) hby
          have h3 := hle y hy h2
          have h4 := hstep y hy h2
          rw [h1] at h3 h4
          have := h4.2 hc
          omega
/-- the least cost of all orders: what each search for it finds -/
def Least (n : Nat) (cost : Nat → Nat → Int) (nil v : Int) : Prop := nil ≤ v ∧ ∀ u, nil ≤ u → (v ≤ u ↔ Ch n cost u 0 (2 ^ n - 1))
theorem Least.one {n : Nat} {cost : Nat → Nat → Int} {nil a b : Int} (ha : Least n cost nil a) (hb : Least n cost nil b) : a = b := by
  have h1 := (ha.2 b hb.1).2 ((hb.2 b hb.1).1 (Int.le_refl _))
  have h2 := (hb.2 a ha.1).2 ((ha.2 a ha.1).1 (Int.le_refl _))
  omega
theorem lc_least {n : Nat} {cost : Nat → Nat → Int} {C : Nat → Int} {nil : Int} (hn : n ≤ 8) (hfull : C (2 ^ n - 1) = nil) (h : ∀ c, c < 2 ^ n - 1 → LcAt n cost C c) (h0 : nil ≤ C 0) : Least n cost nil (C 0) :=
  ⟨h0, fun u hu => lc_ch hn hfull h hu _ 0 (Nat.two_pow_pos n) (Nat.le_refl _)⟩
theorem w_least {n : Nat} {cost : Nat → Nat → Int} {W : Nat → Int} {nil : Int} (hn : n ≤ 8) (h0 : W 0 = nil) (h : ∀ d, d < 2 ^ n → d ≠ 0 → WAt n cost W d) (h1 : nil ≤ W (2 ^ n - 1)) : Least n cost nil (W (2 ^ n - 1)) :=
  ⟨h1, fun u hu => w_ch hn h0 h hu _ _ (by have := Nat.two_pow_pos n; omega) (Nat.le_refl _)⟩
/-- the costs of a layout: how many nodes are in the front -/
noncomputable def frontN (l : List Ed) (n d : Nat) : Int := ((nw (frontB l n (bitB d)) n).length : Int)
noncomputable def frontC (l : List Ed) (n d x : Nat) : Int := frontN l n (d ||| 2 ^ x)
noncomputable def leastV (n : Nat) (cost : Nat → Nat → Int) (nil : Int) : Int := open Classical in if h : ∃ v, Least n cost nil v then h.choose else 0
theorem Least.is {n : Nat} {cost : Nat → Nat → Int} {nil v : Int} (h : Least n cost nil v) : leastV n cost nil = v := by
  have hex : ∃ v, Least n cost nil v := ⟨v, h⟩
  unfold leastV
  rw [dif_pos hex]
  exact Least.one hex.choose_spec h
end Go.Proofs.YtdhbaegkogklgaaDoor.costs

/- The contract of slices.Repeat of one number, up to 256 times. -/
namespace Go.Proofs.YtdhbaegkogklgaaDoor.reps
open Go.RowKit P2 words ints fns
set_option linter.unusedVariables false

end Go.Proofs.YtdhbaegkogklgaaDoor.reps
