/- FnStrings holds. The tables of strconv read as the program's text lays them (tied). -/
import Derived.Test.YtgbnpdgehknfpaaDoorCards
import Derived.Test.YtgbnpdgehknfpaaDoorTie
import Derived.Test.YtgbnpdgehknfpaaDoorRead
import Derived.Test.YtgbnpdgehknfpaaDoorParse
import Derived.Test.YtgbnpdgehknfpaaDoorFlip
import Derived.Test.YtgbnpdgehknfpaaDoorCodes
import Derived.Test.YtgbnpdgehknfpaaDoorDrawNum
import Derived.WalkKit
import Derived.ProofKit
import Derived.OpenShut
import Derived.ShutString
import Derived.ChangeOld
import Derived.ChangeSlices
import Derived.Carry
import Derived.Lib.ConvBytes
import Derived.Lib.AtoiErrMem
import Derived.Deep.RegionHeld3
import Derived.Below
import Derived.WalkLawsBesides
import Derived.LaidMore
import Derived.Deep.DeepHandedRow
import Derived.Deep.DeepWitnessRowRef
namespace Go.Proofs.YtgbnpdgehknfpaaDoor.lawStrings
open Go.ChangeShapes Go.WideShapes Go.ChangeAt Go.RowKit P1 P2 P3 nums fmt sums stands seals cuts verify flip cursor codes drawtext drawnum parse read
open Go.ChangeMaps (open_string shut_string)
set_option linter.unusedVariables false

theorem vBig_any (a : Option Addr) (len cap : Nat) (b : Bool) (w : World) (h : len ≤ 9223372036854775807) (hb : decide (65536 < (len : Int)) = b) :
    Calls Tryd.prog 8 #[.slice a len cap] w fun e w' => e = .returned (.bool b) ∧ w = w' := by
  go_enter Tryd.func8, Tryd.ntmps8
  go_wp2_with fail
  go_ret
  exact ⟨rfl, rfl⟩

set_option maxHeartbeats 400000 in
theorem vAt_any (A : Option Addr) (n c i B : Nat) (w : World) (h : CodeIs w B A n) (hi : i ≤ 1000) (hn : n ≤ 65536) :
    Calls Tryd.prog 19 #[.slice A n c, .int .i64 (i : Int)] w fun e w' => ∃ v : Nat, v ≤ 255 ∧ e = .returned (.int .i64 (v : Int)) ∧ w' = w := by
  by_cases hlt : i < n
  · obtain ⟨g, o, rfl, -, hx⟩ := h.2 (by omega)
    obtain ⟨b, hb, hcell⟩ := hx i hlt
    have hlt' : (i : Int) < (n : Int) := by omega
    clear hx h
    go_enter Tryd.func19, Tryd.ntmps19
    go_wp2_with fail
    go_ret
    exact ⟨b, hb, rfl, rfl⟩
  · have hlt' : ¬ ((i : Int) < (n : Int)) := by omega
    clear h
    go_enter Tryd.func19, Tryd.ntmps19
    go_wp2_with fail
    go_ret
    exact ⟨(i * 7 + n) % 256, by omega, ret_int (by omega), rfl⟩

theorem fmtBoth (n : Int) (h0 : -1000000 ≤ n) (h1 : n ≤ 1000000) :
    ∃ (s : ByteArray) (ok : Bool), s.size ≤ 32 ∧ (∀ W : World, Env W → Calls Tryd.prog 10 #[.int .i64 n] W fun e w' => e = .returned (.tuple #[.string s, .bool ok]) ∧ Below W.heap.size W w') ∧
      (∀ W : World, Calls Tryd.prog 11 #[.int .i64 n] W fun e w' => e = .returned (.tuple #[.string s, .bool ok]) ∧ ∃ m, w' = W.drewN m) ∧
      ∃ (v : Int) (b : Bool), (∀ W : World, EnvE W → Calls Tryd.prog 13 #[.string s] W fun e w' => e = .returned (.tuple #[.int .i64 v, .bool b]) ∧ Below W.heap.size W w') ∧ (ok = true → b = true ∧ v = n) := by
  by_cases hr : -999999 ≤ n ∧ n ≤ 999999
  · have hl := Lib.itoa_length_le n (by omega) (by omega)
    have hz : (⟨(Lib.itoa n).toArray⟩ : ByteArray).size ≤ 32 := by simp [ByteArray.size]; omega
    exact ⟨_, true, hz, fun W hE => implFormatInt_yes n W hE hr.1 hr.2, fun W => specFormatInt_yes n W hr.1 hr.2, n, true,
      fun W hE => implParseInt_yes _ n W hE (by omega) ⟨hr.1, hr.2, by simp⟩, fun _ => ⟨rfl, rfl⟩⟩
  · have hr' : n < -999999 ∨ 999999 < n := by omega
    have hno : ∀ m, ¬ Spells (⟨#[]⟩ : ByteArray).data.toList m := fun m ⟨a, b, e⟩ => by
      have hl : 1 ≤ (Lib.itoa m).length := by
        by_cases hm : m < 0
        · obtain ⟨u, rfl⟩ : ∃ u : Nat, m = -(u : Int) := ⟨m.natAbs, by omega⟩
          rw [Lib.itoa_neg u (by omega)]; simp
        · exact (itoa_len m (by omega) b).1
      rw [e] at hl
      simp at hl
    exact ⟨⟨#[]⟩, false, by decide, fun W _ => (implFormatInt_no n W hr').mono fun e w' h => ⟨h.1, by rw [← h.2]; exact Below.refl _ _⟩, fun W => (specFormatInt_no n W hr').mono fun e w' h => ⟨h.1, 0, h.2.symm⟩, 0, false,
      fun W hE => implParseInt_no ⟨#[]⟩ W hE (by decide) hno, fun h => by cases h⟩

theorem parseBoth (t : ByteArray) (ht : t.size ≤ 1048576) :
    ∃ (v : Int) (b : Bool), (∀ W : World, EnvE W → Calls Tryd.prog 13 #[.string t] W fun e w' => e = .returned (.tuple #[.int .i64 v, .bool b]) ∧ Below W.heap.size W w') ∧
      (∀ W : World, Calls Tryd.prog 14 #[.string t] W fun e w' => e = .returned (.tuple #[.int .i64 v, .bool b]) ∧ ∃ m, w' = W.drewN m) := by
  by_cases h : ∃ n, Spells t.data.toList n
  · obtain ⟨n, hn⟩ := h
    exact ⟨n, true, fun W hE => implParseInt_yes t n W hE ht hn, fun W => specParseInt_yes t n W ht hn⟩
  · have h' : ∀ n, ¬ Spells t.data.toList n := fun n e => h ⟨n, e⟩
    exact ⟨0, false, fun W hE => implParseInt_no t W hE ht h', fun W => specParseInt_no t W ht h'⟩

theorem appendBoth (x : ByteArray) (hx : x.size ≤ 1048576) :
    ∃ (y : ByteArray) (b : Bool), (∀ W : World, Env W → Calls Tryd.prog 16 #[.string x] W fun e w' => e = .returned (.tuple #[.string y, .bool b]) ∧ Below W.heap.size W w') ∧
      (∀ W : World, Calls Tryd.prog 17 #[.string x] W fun e w' => e = .returned (.tuple #[.string y, .bool b]) ∧ ∃ m, w' = W.drewN m) ∧
      (b = false → y = ⟨#[]⟩) ∧ (b = true → CanSeal x.data.toList ∧ y = ⟨(sealB x.data.toList).toArray⟩) := by
  by_cases h : CanSeal x.data.toList
  · exact ⟨_, true, fun W hE => implAppend_yes x W hE hx h, fun W => specAppend_yes x W hx h, (fun e => by cases e), fun _ => ⟨h, rfl⟩⟩
  · exact ⟨_, false, fun W hE => implAppend_no x W hE hx h, fun W => specAppend_no x W hx h, fun _ => rfl, (fun e => by cases e)⟩

theorem head_seal (l : List UInt8) (h : 35 ∉ l) : headB (sealB l) 35 = l := by
  have F := seal_marked l h
  have hi : Lib.indexByte (sealB l) 35 = (l.length : Int) := by
    have hg := Lib.indexByte_ge (sealB l) 35
    by_cases h0 : 0 ≤ Lib.indexByte (sealB l) 35
    · obtain ⟨o, ho⟩ : ∃ o : Nat, Lib.indexByte (sealB l) 35 = o := ⟨(Lib.indexByte (sealB l) 35).toNat, by omega⟩
      obtain ⟨h1, h2⟩ := Lib.indexByte_some ho
      rw [ho]
      rcases Nat.lt_trichotomy o l.length with hlt | he | hgt
      · exact absurd h1 (F.before o hlt)
      · rw [he]
      · exact absurd F.there (h2 _ hgt)
    · exact absurd F.there (Lib.indexByte_none (by omega) _)
  unfold headB
  rw [hi, if_pos (by omega)]
  exact seal_take l
/-- a sealed text opens -/
theorem opens (x y : ByteArray) (h : CanSeal x.data.toList) (hy : y = ⟨(sealB x.data.toList).toArray⟩) (W : World) (hE : Env W) :
    Calls Tryd.prog 18 #[.string y] W fun e w' => e = .returned (.tuple #[.string x, .bool true]) ∧ Below W.heap.size W w' := by
  have hyl : y.data.toList = sealB x.data.toList := by rw [hy]
  have hhead : headB y.data.toList 35 = x.data.toList := by
    rw [hyl]
    exact head_seal _ h.1
  have hx : headS y = x := by
    apply ByteArray.ext; apply Array.toList_inj.1; rw [headS_list, hhead]
  have := implVerify_yes y W hE ⟨by rw [size_list, hyl]; exact h.2, by rw [hhead, hyl]⟩
  rw [hx] at this
  exact this
/-- a text with one byte changed does not -/
theorem shuts (x y : ByteArray) (k : Nat) (c : UInt8) (h : CanSeal x.data.toList) (hk : k < (sealB x.data.toList).length) (hc : (sealB x.data.toList)[k]? ≠ some c) (hy : y.data.toList = (sealB x.data.toList).set k c) (W : World) (hE : Env W) :
    Calls Tryd.prog 18 #[.string y] W fun e w' => e = .returned (.tuple #[.string ⟨#[]⟩, .bool false]) ∧ Below W.heap.size W w' := by
  have hs : y.size ≤ 4000 := by rw [size_list, hy, List.length_set]; exact h.2
  exact implVerify_no y W hE (by omega) fun hS => flip_not x.data.toList (headB y.data.toList 35) k c h.1 (headB_not _ _) hk hc (by rw [hS.2, hy])

/-- a row of bytes that may be written -/
def RowB (w : World) (g : Nat) (l : List UInt8) : Prop :=
  ∃ (cur : Array Value) (e : TypeId) (fr : Nat × Nat), w.heap[g]? = some (.cells cur e fr) ∧ (∀ (j : Nat) (b : UInt8), l[j]? = some b → cur[j]? = some (Value.int .u8 (b.toNat : Int))) ∧ ∀ j, j < l.length → w.frozen? ⟨g, j, none⟩ = false

theorem rowB_new (w : World) (e : TypeId) (s : ByteArray) : RowB (Lib.bytesWorld w e s) w.heap.size s.data.toList := by
  refine ⟨_, _, _, Lib.bytesWorld_at_new w e s, fun j b hb => ?_, fun j hj => ?_⟩
  · unfold Lib.bytesCells
    have hj : j < s.data.size := by have := (List.getElem?_eq_some_iff.1 hb).1; rwa [Array.length_toList] at this
    rw [Array.getElem?_append_left (by simpa using hj), Array.getElem?_map]
    rw [Array.getElem?_toList] at hb
    rw [hb]; rfl
  · have hg := Lib.bytesWorld_at_new w e s
    have hs : j < (Lib.bytesCells w e s).size := by
      rw [Array.length_toList] at hj
      have : s.size = s.data.size := rfl
      simp [Lib.bytesCells]; omega
    simp [World.frozen?, hg]
    omega

theorem rowB_cell {w : World} {g : Nat} {l : List UInt8} (h : RowB w g l) {j : Nat} {b : UInt8} (hj : l[j]? = some b) : w.cell? ⟨g, j, none⟩ = some (.int .u8 (b.toNat : Int)) := by
  obtain ⟨cur, e, fr, hg, hc, _⟩ := h
  rw [cell_of_row w g j cur e fr hg]
  exact hc j b hj
theorem rowB_free {w : World} {g : Nat} {l : List UInt8} (h : RowB w g l) (j : Nat) (hj : j < l.length) : w.frozen? ⟨g, j, none⟩ = false := by
  obtain ⟨cur, e, fr, hg, _, hf⟩ := h
  exact hf j hj

theorem rowB_set {w : World} {g : Nat} {l : List UInt8} (h : RowB w g l) {k : Nat} (c : UInt8) (hk : k < l.length) :
    ∀ j (hj : j < (l.set k c).length), (w.setCell ⟨g, k, none⟩ (.int .u8 (c.toNat : Int))).drew.cell? ((⟨g, 0, none⟩ : Addr).add j) = some (.int .u8 ((l.set k c)[j].toNat : Int)) := by
  intro j hj
  obtain ⟨cur, e, fr, hg, hc, _⟩ := h
  have hadd : (⟨g, 0, none⟩ : Addr).add j = ⟨g, j, none⟩ := by unfold Addr.add; split <;> simp_all
  have h2 : (w.setCell ⟨g, k, none⟩ (.int .u8 (c.toNat : Int))).heap[g]? = some (.cells (cur.setIfInBounds k (.int .u8 (c.toNat : Int))) e fr) := by
    simp [World.setCell, Array.getElem?_modify, hg]
  have h3 : (w.setCell ⟨g, k, none⟩ (.int .u8 (c.toNat : Int))).cell? ⟨g, j, none⟩ = (cur.setIfInBounds k (.int .u8 (c.toNat : Int)))[j]? := cell_of_row _ g j _ e fr h2
  rw [hadd]
  show (w.setCell ⟨g, k, none⟩ (.int .u8 (c.toNat : Int))).cell? ⟨g, j, none⟩ = _
  rw [h3]
  have hjl : j < l.length := by simpa using hj
  obtain ⟨b0, hb0⟩ : ∃ b0, l[k]? = some b0 := ⟨_, List.getElem?_eq_getElem hk⟩
  have hks : k < cur.size := (Array.getElem?_eq_some_iff.1 (hc k b0 hb0)).1
  by_cases e : k = j
  · subst e
    rw [Array.getElem?_setIfInBounds_self_of_lt hks]
    simp
  · rw [Array.getElem?_setIfInBounds_ne e, hc j l[j] (List.getElem?_eq_getElem hjl)]
    simp [List.getElem_set_ne e]
theorem rowB_conv {w : World} {g : Nat} {l : List UInt8} (h : ∀ j (hj : j < l.length), w.cell? ((⟨g, 0, none⟩ : Addr).add j) = some (.int .u8 (l[j].toNat : Int))) (cap : Nat) :
    (convert 22 9 (.slice (some ⟨g, 0, none⟩) l.length cap)).run Tryd.prog w = .ok (.string ⟨l.toArray⟩) w :=
  run_convert_bytes_back w 22 9 5 ⟨g, 0, none⟩ cap l Tryd.underlying22 Tryd.underlying5 Tryd.underlying9 h
theorem xor_flip (c : UInt8) (v : Nat) (hv : v ≤ 255) : ∃ d : UInt8, bits .xor .u8 (c.toNat : Int) (IntKind.u8.wrap (IntKind.i64.wrap (1 + (v : Int).tmod 255))) = (d.toNat : Int) ∧ d ≠ c := by
  have ht : (v : Int).tmod 255 = ((v % 255 : Nat) : Int) := by
    rw [Int.tmod_eq_emod_of_nonneg (by omega)]; simp
  obtain ⟨q, hq⟩ : ∃ q, q = 1 + v % 255 := ⟨_, rfl⟩
  have h1 : IntKind.u8.wrap (IntKind.i64.wrap (1 + (v : Int).tmod 255)) = (q : Int) := by
    rw [ht, IntKind.wrap_i64]
    have : IntKind.u8.wrap = fun n : Int => n % 256 := by funext n; simp [IntKind.wrap, IntKind.bits, IntKind.signed]
    rw [this]
    show _ % 256 = _
    omega
  rw [h1]
  have hc := c.toNat_lt
  have hx : c.toNat ^^^ q < 2 ^ 8 := Nat.xor_lt_two_pow (by omega) (by omega)
  have e1 : (BitVec.ofInt 8 (c.toNat : Int)).toNat = c.toNat := by
    rw [BitVec.ofInt_natCast, BitVec.toNat_ofNat]; exact Nat.mod_eq_of_lt (by omega)
  have e2 : (BitVec.ofInt 8 (q : Int)).toNat = q := by
    rw [BitVec.ofInt_natCast, BitVec.toNat_ofNat]; exact Nat.mod_eq_of_lt (by omega)
  refine ⟨UInt8.ofNat (c.toNat ^^^ q), ?_, fun e => ?_⟩
  · show IntKind.u8.wrap ((BitVec.ofInt 8 (c.toNat : Int) ^^^ BitVec.ofInt 8 (q : Int)).toNat : Int) = _
    rw [BitVec.toNat_xor, e1, e2]
    have : IntKind.u8.wrap = fun n : Int => n % 256 := by funext n; simp [IntKind.wrap, IntKind.bits, IntKind.signed]
    rw [this, UInt8.toNat_ofNat']
    show (_ : Int) % 256 = _
    omega
  · have h3 := congrArg UInt8.toNat e
    rw [UInt8.toNat_ofNat', Nat.mod_eq_of_lt (by omega)] at h3
    have h4 : c.toNat ^^^ (c.toNat ^^^ q) = c.toNat ^^^ c.toNat := by rw [h3]
    rw [← Nat.xor_assoc, Nat.xor_self, Nat.zero_xor] at h4
    omega

set_option maxRecDepth 100000 in
set_option maxHeartbeats 1000000 in
theorem walk (a : Option Addr) (len cap : Nat) (z : List Int) (w : World) (hE : EnvE w) (w0 : IsRow .u8 w a len cap z) :
    Calls Tryd.prog 3 #[.slice a len cap] w fun e w' => e = .returned (.bool true) ∧ Below w.heap.size w w' := by
  have hC := code_of w0
  clear w0
  have hn := hC.1
  unfold maxLen at hn
  by_cases hbig : 65536 < len
  · clear hC
    have HV := Lib.hid (vBig_any a len cap true w hn (by simp; omega))
    go_enter Tryd.func3, Tryd.ntmps3
    go_wp2_with (go_at_call 8; refine HV.out.mono ?_; rintro e w' ⟨rfl, rfl⟩)
    go_ret
    exact ⟨rfl, Below.refl _ _⟩
  have HC := Lib.hid hC
  have HE := Lib.hid hE
  clear hC hE
  have HV := Lib.hid (vBig_any a len cap false w hn (by simp; omega))
  have hlen : len ≤ 65536 := by omega
  clear hbig hn
  go_enter Tryd.func3, Tryd.ntmps3
  go_wp2_with (go_at_call 8; refine HV.out.mono ?_; rintro e w' ⟨rfl, rfl⟩)
  refine (drawFormat_any a len cap _ HC.out).mono ?_
  rintro e w1 ⟨n, hn0, hn1, rfl, c1⟩
  obtain ⟨s, ok, hs32, f1, f2, v, b, f3, f4⟩ := fmtBoth n hn0 hn1
  have F1 := Lib.hid f1
  have F2 := Lib.hid f2
  have F3 := Lib.hid f3
  have F4 := Lib.hid f4
  clear f1 f2 f3 f4 HV
  go_wp2_with fail
  refine (F1.out _ (HE.out.toEnv.next c1)).mono ?_
  rintro e w2 ⟨rfl, b2⟩
  have c2 := c1.trans (b2.mono c1.size)
  clear b2 c1
  go_wp2_with fail
  refine (F2.out _).mono ?_
  rintro e w3 ⟨rfl, m3, rfl⟩
  have c3 := below_drewN c2 m3
  clear c2
  generalize hw3 : w2.drewN m3 = w3 at *
  clear hw3
  go_wp2_with fail
  refine (drawParse_any a len cap _ (CodeIs.next HC.out c3)).mono ?_
  rintro e w4 ⟨t, ht, rfl, b4⟩
  have c4 := c3.trans (b4.mono c3.size)
  clear b4 c3
  obtain ⟨m, fine, p1, p2⟩ := parseBoth t (by omega)
  have P1 := Lib.hid p1
  have P2 := Lib.hid p2
  clear p1 p2 F1 F2
  go_wp2_with fail
  refine (P1.out _ (HE.out.next c4)).mono ?_
  rintro e w5 ⟨rfl, b5⟩
  have c5 := c4.trans (b5.mono c4.size)
  clear b5 c4
  go_wp2_with fail
  refine (P2.out _).mono ?_
  rintro e w6 ⟨rfl, m6, rfl⟩
  have c6 := below_drewN c5 m6
  clear c5
  generalize hw6 : w5.drewN m6 = w6 at *
  clear hw6 P1 P2
  go_wp2_with fail
  refine (drawAppend_any a len cap _ (CodeIs.next HC.out c6)).mono ?_
  rintro e w7 ⟨x, hx, rfl, b7⟩
  have c7 := c6.trans (b7.mono c6.size)
  clear b7 c6
  obtain ⟨y, sealed, a1, a2, a3, a4⟩ := appendBoth x (by omega)
  have A1 := Lib.hid a1
  have A2 := Lib.hid a2
  have A3 := Lib.hid a3
  have A4 := Lib.hid a4
  clear a1 a2 a3 a4
  go_wp2_with fail
  refine (A1.out _ (HE.out.toEnv.next c7)).mono ?_
  rintro e w8 ⟨rfl, b8⟩
  have c8 := c7.trans (b8.mono c7.size)
  clear b8 c7
  go_wp2_with fail
  refine (A2.out _).mono ?_
  rintro e w9 ⟨rfl, m9, rfl⟩
  have c9 := below_drewN c8 m9
  clear c8
  generalize hw9 : w8.drewN m9 = w9 at *
  clear hw9 A1 A2
  have q1 : (s.toList == s.toList) = true := by simp
  have q2 : (y.toList == y.toList) = true := by simp
  go_wp2_with fail
  refine (F3.out _ (HE.out.next c9)).mono ?_
  rintro e w10 ⟨rfl, b10⟩
  have c10 := c9.trans (b10.mono c9.size)
  clear b10 c9
  have hn1' : (n == n) = true := by simp
  have hn2' : (n != n) = false := by simp
  cases ok with
  | true =>
    obtain ⟨rfl, rfl⟩ := F4.out rfl
    clear F4 F3
    cases sealed with
    | false =>
      obtain rfl := A3.out rfl
      go_wp2_with fail
      go_ret
      exact ⟨rfl, c10⟩
    | true =>
      obtain ⟨hcan, hy⟩ := A4.out rfl
      have O := Lib.hid (opens x y hcan hy)
      have HCAN := Lib.hid hcan
      have HY := Lib.hid hy
      have hys : 1 ≤ y.size ∧ y.size ≤ 4000 := by
        have h1 := hcan.2
        have h2 := sealB_len x.data.toList
        rw [hy, size_list]
        show 1 ≤ (sealB x.data.toList).length ∧ (sealB x.data.toList).length ≤ 4000
        omega
      obtain ⟨hy1, hy4⟩ := hys
      clear hcan hy A3 A4
      have hcv := fun W : World => Lib.run_convert_string_bytes (P := Tryd.prog) W 9 22 5 y Tryd.underlying9 Tryd.underlying22 Tryd.underlying5
      go_wp2_with (go_at_call 18; refine (O.out _ (HE.out.toEnv.next c10)).mono ?_; rintro e w11 ⟨rfl, b11⟩)
      have hB12 : Below w.heap.size w (Lib.bytesWorld w11 5 y) := by
        have c11 := c10.trans (b11.mono c10.size)
        exact c11.trans ((Lib.bytesWorld_below w11 5 y).mono c11.size)
      have hgb : w.heap.size ≤ w11.heap.size := (c10.trans (b11.mono c10.size)).size
      have hrow := rowB_new w11 5 y
      generalize hw12 : Lib.bytesWorld w11 5 y = w12 at *
      generalize hgc : grownCap w11 y.size 0 5 = cp2 at *
      generalize hgg : w11.heap.size = gb at *
      clear hw12 hgc hgg b11 c10 O hcv
      refine (vAt_any a len cap 9 w12.heap.size w12 (CodeIs.next HC.out hB12) (by omega) hlen).mono ?_
      rintro e w13 ⟨q9, hq9, rfl, rfl⟩
      obtain ⟨k, hk⟩ : ∃ k, k = q9 % y.size := ⟨_, rfl⟩
      have hkI : (q9 : Int) % (y.size : Int) = (k : Int) := by rw [hk]; simp
      have hky : k < y.size := by rw [hk]; exact Nat.mod_lt _ (by omega)
      obtain ⟨c0, hc0⟩ : ∃ c0, y.data.toList[k]? = some c0 := ⟨_, List.getElem?_eq_getElem (by rw [← size_list]; exact hky)⟩
      have hcellk := rowB_cell hrow hc0
      have hfrk := rowB_free hrow k (by rw [← size_list]; exact hky)
      have HV10 := Lib.hid (vAt_any a len cap 10 w13.heap.size w13.drew (CodeIs.next HC.out hB12.drew) (by omega) hlen)
      clear hk
      go_wp2_with fail
      rw [hkI]
      go_region_with (go_at_call 19; refine HV10.out.mono ?_; rintro e w1 ⟨v2, hv2, rfl, rfl⟩)
      all_goals
        obtain ⟨c', hxor, hne⟩ := xor_flip c0 v2 hv2
        rw [hxor]
        have hR := rowB_set hrow c' (show k < y.data.toList.length by rw [← size_list]; exact hky)
        have hB14 : Below w.heap.size w (w13.setCell ⟨gb, k, none⟩ (.int .u8 (c'.toNat : Int))).drew := (hB12.setCell (p := ⟨gb, k, none⟩) hgb _).drew
        generalize (w13.setCell ⟨gb, k, none⟩ (.int .u8 (c'.toNat : Int))).drew = w14 at *
        obtain ⟨y', hy'⟩ : ∃ y' : ByteArray, y' = ⟨(y.data.toList.set k c').toArray⟩ := ⟨_, rfl⟩
        have hcv2 : (convert 22 9 (.slice (some ⟨gb, 0, none⟩) y.size cp2)).run Tryd.prog w14 = .ok (.string y') w14 := by
          have h := rowB_conv hR cp2
          rw [List.length_set, ← size_list, ← hy'] at h
          exact h
        have hyl : y.data.toList = sealB x.data.toList := by rw [HY.out]
        have HSH := Lib.hid (shuts x y' k c' HCAN.out (by rw [← hyl, ← size_list]; exact hky) (by rw [← hyl, hc0]; exact fun e => hne (Option.some.inj e).symm) (by rw [hy', hyl]) w14 (HE.out.toEnv.next hB14))
        have q3 : (x.toList == x.toList) = true := by simp
        clear hy' hyl hR hxor hne hc0 hcellk hfrk HV10 hrow
        go_wp2_with (go_at_call 18; refine HSH.out.mono ?_; rintro e w15 ⟨rfl, b15⟩)
        go_ret
        exact ⟨rfl, hB14.trans (b15.mono hB14.size)⟩
  | false =>
    clear F4 F3
    cases sealed with
    | false =>
      obtain rfl := A3.out rfl
      go_wp2_with fail
      go_ret
      exact ⟨rfl, c10⟩
    | true =>
      obtain ⟨hcan, hy⟩ := A4.out rfl
      have O := Lib.hid (opens x y hcan hy)
      have HCAN := Lib.hid hcan
      have HY := Lib.hid hy
      have hys : 1 ≤ y.size ∧ y.size ≤ 4000 := by
        have h1 := hcan.2
        have h2 := sealB_len x.data.toList
        rw [hy, size_list]
        show 1 ≤ (sealB x.data.toList).length ∧ (sealB x.data.toList).length ≤ 4000
        omega
      obtain ⟨hy1, hy4⟩ := hys
      clear hcan hy A3 A4
      have hcv := fun W : World => Lib.run_convert_string_bytes (P := Tryd.prog) W 9 22 5 y Tryd.underlying9 Tryd.underlying22 Tryd.underlying5
      go_wp2_with (go_at_call 18; refine (O.out _ (HE.out.toEnv.next c10)).mono ?_; rintro e w11 ⟨rfl, b11⟩)
      have hB12 : Below w.heap.size w (Lib.bytesWorld w11 5 y) := by
        have c11 := c10.trans (b11.mono c10.size)
        exact c11.trans ((Lib.bytesWorld_below w11 5 y).mono c11.size)
      have hgb : w.heap.size ≤ w11.heap.size := (c10.trans (b11.mono c10.size)).size
      have hrow := rowB_new w11 5 y
      generalize hw12 : Lib.bytesWorld w11 5 y = w12 at *
      generalize hgc : grownCap w11 y.size 0 5 = cp2 at *
      generalize hgg : w11.heap.size = gb at *
      clear hw12 hgc hgg b11 c10 O hcv
      refine (vAt_any a len cap 9 w12.heap.size w12 (CodeIs.next HC.out hB12) (by omega) hlen).mono ?_
      rintro e w13 ⟨q9, hq9, rfl, rfl⟩
      obtain ⟨k, hk⟩ : ∃ k, k = q9 % y.size := ⟨_, rfl⟩
      have hkI : (q9 : Int) % (y.size : Int) = (k : Int) := by rw [hk]; simp
      have hky : k < y.size := by rw [hk]; exact Nat.mod_lt _ (by omega)
      obtain ⟨c0, hc0⟩ : ∃ c0, y.data.toList[k]? = some c0 := ⟨_, List.getElem?_eq_getElem (by rw [← size_list]; exact hky)⟩
      have hcellk := rowB_cell hrow hc0
      have hfrk := rowB_free hrow k (by rw [← size_list]; exact hky)
      have HV10 := Lib.hid (vAt_any a len cap 10 w13.heap.size w13.drew (CodeIs.next HC.out hB12.drew) (by omega) hlen)
      clear hk
      go_wp2_with fail
      rw [hkI]
      go_region_with (go_at_call 19; refine HV10.out.mono ?_; rintro e w1 ⟨v2, hv2, rfl, rfl⟩)
      all_goals
        obtain ⟨c', hxor, hne⟩ := xor_flip c0 v2 hv2
        rw [hxor]
        have hR := rowB_set hrow c' (show k < y.data.toList.length by rw [← size_list]; exact hky)
        have hB14 : Below w.heap.size w (w13.setCell ⟨gb, k, none⟩ (.int .u8 (c'.toNat : Int))).drew := (hB12.setCell (p := ⟨gb, k, none⟩) hgb _).drew
        generalize (w13.setCell ⟨gb, k, none⟩ (.int .u8 (c'.toNat : Int))).drew = w14 at *
        obtain ⟨y', hy'⟩ : ∃ y' : ByteArray, y' = ⟨(y.data.toList.set k c').toArray⟩ := ⟨_, rfl⟩
        have hcv2 : (convert 22 9 (.slice (some ⟨gb, 0, none⟩) y.size cp2)).run Tryd.prog w14 = .ok (.string y') w14 := by
          have h := rowB_conv hR cp2
          rw [List.length_set, ← size_list, ← hy'] at h
          exact h
        have hyl : y.data.toList = sealB x.data.toList := by rw [HY.out]
        have HSH := Lib.hid (shuts x y' k c' HCAN.out (by rw [← hyl, ← size_list]; exact hky) (by rw [← hyl, hc0]; exact fun e => hne (Option.some.inj e).symm) (by rw [hy', hyl]) w14 (HE.out.toEnv.next hB14))
        have q3 : (x.toList == x.toList) = true := by simp
        clear hy' hyl hR hxor hne hc0 hcellk hfrk HV10 hrow
        go_wp2_with (go_at_call 18; refine HSH.out.mono ?_; rintro e w15 ⟨rfl, b15⟩)
        go_ret
        exact ⟨rfl, hB14.trans (b15.mono hB14.size)⟩

theorem own : ownKnob Tryd.prog.godebug = none := by kernel_rfl
theorem laidOut : laidOutB Tryd.prog = true := by kernel_rfl

theorem door_met (os : Os) : laidMet Tryd.prog Rows.fnStringsRow.laid ((World.doorLaid Tryd.prog 400 os).forCall (fun _ _ => 0) ⟨#[], #[.slice none 0 0], []⟩).memory :=
  laidMet_of_run' 8 (by kernel_rfl) (by kernel_rfl)
theorem reads (os : Os) {H : Type} (enc : TypeId × Value → H) : ∃ places, DataW.whole enc Tryd.prog ((World.doorLaid Tryd.prog 400 os).forCall (fun _ _ => 0) ⟨#[], #[.slice none 0 0], []⟩).memory Tryd.f3.params.toList Rows.fnStringsSpec.vars false (#[.slice none 0 0] : Array Value).toList 8 = some ([.nil], [], places) :=
  ⟨[], by kernel_rfl⟩

set_option maxRecDepth 100000 in
theorem lifted (os : Os) (started : os.Started) (H : Type) (enc : TypeId × Value → H) (F : Stop.Interp) :
    ReturnsInHanded {} Tryd.checked os 3 .any ((OpenSpec.ofChange Rows.fnStringsSpec).preRow enc Tryd.prog Tryd.f3 Rows.fnStringsRow.domain false Rows.fnStringsRow.laid) (((OpenSpec.ofChange Rows.fnStringsSpec).at F).post enc Tryd.prog Tryd.f3 false true false false) := by
  obtain ⟨places, hx⟩ := reads os enc
  refine returnsInHanded_of_row (C := Tryd.checked) (s := OpenSpec.ofChange Rows.fnStringsSpec) own started (by kernel_rfl) Tryd.func3
    (witness_row_atRef (enc := enc) (C := Tryd.checked) false (World.doorLaid Tryd.prog 400 os) #[.slice none 0 0] rfl (by kernel_rfl) (by kernel_rfl) (by kernel_rfl)
      (OpenSpec.preRow_of_cond 8 hx (by kernel_rfl) (fun k hk => by cases hk) (by kernel_rfl) (door_met os))) ?_
  intro W base args ds gs before hval0 hW _ _ _ hL hsh _
  have hval : ∀ (j : Nat) t v, Tryd.f3.params[j]? = some t → args[j]? = some v → Value.okWide Tryd.prog W .any base t v := hval0
  have hW' := hW
  obtain ⟨p, q, hA0, hV, rfl, hfz, hnd⟩ := hW
  have hA : DataW.TrodAll enc Tryd.prog W 0 (fun _ => true) true Tryd.f3.params.toList args.toList ds p := hA0
  rw [Tryd.params3] at hA hval
  obtain ⟨v0, vs0, d0, ds0, p0, q0, hargs, rfl, rfl, h0, r0⟩ := trodAll_cons hA
  obtain ⟨rfl, rfl, rfl⟩ := trodAll_nil r0
  obtain rfl : args = #[v0] := by cases args; simp_all
  obtain ⟨rfl, rfl⟩ := trodVars_none hV
  obtain ⟨a0, len0, cap0, rfl⟩ := okWide_slice Tryd.underlying22 (hval 0 22 v0 rfl rfl)
  have k0 := h0
  have lt0 : ∀ x ∈ p0, x.block < W.heap.size := by obtain ⟨m, hm⟩ := k0; exact DataW.trod_lt m _ _ _ hm
  obtain ⟨z0, w0⟩ : ∃ zs, P1.IsRow .u8 W a0 len0 cap0 zs := by
    obtain ⟨fuel, hf⟩ := h0
    rcases open_ints Tryd.underlying22 Tryd.underlying5 (by kernel_rfl) hf with ⟨hcs, _⟩ | ⟨x, l, c, zs, hcs, _, hl, hm, hz, _, hcell, hwz⟩
    · simp [Value.cells] at hcs
      obtain ⟨rfl, rfl, rfl⟩ := hcs
      exact ⟨[], .inl ⟨rfl, rfl, rfl, rfl⟩⟩
    · simp [Value.cells] at hcs
      obtain ⟨rfl, rfl, rfl⟩ := hcs
      exact ⟨zs, .inr ⟨_, rfl, hl, hm, by simpa using hz, hcell, hwz⟩⟩
  clear hA0 hval0
  refine (walk a0 len0 cap0 z0 W (envE_of hL hsh) w0).mono fun e W' ⟨he, bel⟩ => ?_
  subst he
  exact ⟨_, rfl, _, _, _, [], _, [], hW', trodAll_mk1 (shut_bool Tryd.underlying4 _), (trodAll_cons_mk (Below.trod laidOut (by kernel_rfl) (of_decide_eq_true (by kernel_rfl)) k0 bel lt0) trodAll_mk0), rfl, bel.frame _, fun h => by cases h⟩

theorem said : Rows.FnStringsSaid :=
  OpenClaim.holds_of_cond 3 Tryd.f3 rfl rfl rfl rfl rfl rfl rfl ⟨rfl, rfl, rfl, rfl, rfl⟩ rfl rfl rfl rfl rfl (by kernel_rfl) Tryd.func3 (by kernel_rfl)
    (of_decide_eq_true (by kernel_rfl)) (by unfold Func.isWrapper; first | (rw [if_pos (by decide +kernel)]; kernel_rfl) | (rw [if_neg (by decide +kernel)]; exact ⟨rfl, rfl⟩))
    (fun os started H enc _ F => by rw [OpenClaim.pre_eq_preRow]; exact lifted os started H enc F)

theorem plain (f : FuncId) (fn : Func) (hf : Tryd.pinned.checked.prog.funcNamed Rows.fnStringsRow.func = some f) (hfn : Tryd.pinned.checked.prog.funcs[f]? = some fn) :
    true = Tryd.pinned.checked.prog.looks [] ∧ ∀ (j : Nat) t, fn.params[j]? = some t → Tryd.pinned.checked.prog.wantsStandIn t = false := by
  obtain rfl : f = 3 := Option.some.inj ((show Tryd.prog.funcNamed Rows.fnStringsRow.func = some 3 by kernel_rfl).symm.trans hf) |>.symm
  obtain rfl : fn = Tryd.f3 := (Option.some.inj (Tryd.func3.symm.trans hfn)).symm
  refine ⟨by kernel_rfl, fun j t ht => ?_⟩
  rw [Tryd.params3] at ht
  have hm := Array.mem_of_getElem? ht
  have hall : ∀ t ∈ (#[22] : Array TypeId), Tryd.prog.wantsStandIn t = false := by
    intro t ht
    simp at ht
    subst ht
    all_goals kernel_rfl
  exact hall t hm

theorem fnStrings_card : Rows.FnStringsCardSaid :=
  Claim7.holds_tied_plain_at .later [] _ _ _ _ said (fun _ h => by cases h) (by kernel_rfl) (fun _ h => by cases h) fnStrings_row_tie rfl ⟨rfl, rfl⟩ (by kernel_rfl) rfl plain (by kernel_rfl)
end Go.Proofs.YtgbnpdgehknfpaaDoor.lawStrings
