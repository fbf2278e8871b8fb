/- The contracts of the program's ParseInt, under what the package-level variables hold. -/
import Derived.Test.YtgbnpdgehknfpaaDoorFmt
import Derived.Test.YtgbnpdgehknfpaaDoorRead
import Derived.Lib.AtoiErrMem
import Derived.Lib.IfaceNeq
import Derived.BigCall
namespace Go.Proofs.YtgbnpdgehknfpaaDoor.parse
open Go.RowKit P1 P2 nums fmt read

theorem gES : Tryd.prog.globalNamed "strconv.ErrSyntax" = some 0 := by kernel_rfl
theorem gESType : (Tryd.prog.globals[0]?).map (·.type) = some 46 := by kernel_rfl
theorem gER : Tryd.prog.globalNamed "strconv.ErrRange" = some 1 := by kernel_rfl
theorem gERType : (Tryd.prog.globals[1]?).map (·.type) = some 46 := by kernel_rfl
theorem cellsErr : Tryd.prog.cellsOf 88 = 1 := by kernel_rfl
theorem cellsStr : Tryd.prog.cellsOf 9 = 1 := by kernel_rfl
theorem star : "*" ++ "errors.errorString" = "*errors.errorString" := by decide
theorem rowErr (u : TypeId) (h : Tryd.prog.typeName? 3 u = some "*errors.errorString") : u = 86 :=
  typeName_ptr_named (nm := "errors.errorString") (by rw [star]; kernel_rfl) (by kernel_rfl) (by decide) u (by rw [star]; exact h)

/-- the two error variables hold errors that are there -/
structure EnvE (w : World) : Prop extends Env w where
  syn : ∃ tp p, w.var? Tryd.prog "strconv.ErrSyntax" = some #[.iface tp p]
  rng : ∃ tp p, w.var? Tryd.prog "strconv.ErrRange" = some #[.iface tp p]
theorem var_next {w w' : World} {n : String} {g : Nat} {tp : TypeId} {p : Value} (hg : Tryd.prog.globalNamed n = some g) (hb : Below w.heap.size w w') (h : w.var? Tryd.prog n = some #[.iface tp p]) : w'.var? Tryd.prog n = some #[.iface tp p] :=
  var?_below hb hg (by
    have h0 := World.var?_cell hg h 0
    have h1 : w.cell? ⟨g, 0, none⟩ = some (.iface tp p) := by simpa using h0
    exact World.block_lt_of_cell? w (a := ⟨g, 0, none⟩) h1) h
theorem EnvE.next {w w' : World} (h : EnvE w) (hb : Below w.heap.size w w') : EnvE w' :=
  { toEnv := h.toEnv.next hb
    syn := by obtain ⟨tp, p, hv⟩ := h.syn; exact ⟨tp, p, var_next gES hb hv⟩
    rng := by obtain ⟨tp, p, hv⟩ := h.rng; exact ⟨tp, p, var_next gER hb hv⟩ }
theorem EnvE.drewN {w : World} (h : EnvE w) (n : Nat) : EnvE (w.drewN n) := h.next (below_drewN (Below.refl _ _) _)

theorem envE_of {W : World} {x y : String × DataW Unit} (h : laidMet Tryd.prog [x, y, ("internal/strconv.uint64pow10", Rows.laid_internal_strconv_uint64pow10), ("strconv.ErrRange", Rows.laid_strconv_ErrRange), ("strconv.ErrSyntax", Rows.laid_strconv_ErrSyntax)] W) (hsh : W.ShapedOpen Tryd.prog) : EnvE W := by
  obtain ⟨a0, s0, hv0, -, -, -⟩ := laid_sentinel h.tail.tail.tail gER gERType Tryd.underlying46 rowErr Tryd.underlying86 Tryd.underlying88 rfl rfl Tryd.underlying9 cellsErr cellsStr
  obtain ⟨a1, s1, hv1, -, -, -⟩ := laid_sentinel h.tail.tail.tail.tail gES gESType Tryd.underlying46 rowErr Tryd.underlying86 Tryd.underlying88 rfl rfl Tryd.underlying9 cellsErr cellsStr
  exact { toEnv := env_of h hsh, syn := ⟨_, _, hv1⟩, rng := ⟨_, _, hv0⟩ }

theorem atoi_ok (s : ByteArray) (v : Int) (w : World) (hs : s.size ≤ 1048576) (h : Lib.atoiAll s.data.toList = .ok v) :
    Calls Tryd.prog 28 #[.string s] w fun e w' => e = .returned (.tuple #[.int .i64 v, .nilIface]) ∧ Below w.heap.size w w' := by
  have c : Calls Tryd.prog 28 #[.string s] w fun e w' => e = .returned (.tuple #[.int .i64 v, .nilIface]) ∧ (w' = w ∨ ∃ t, w' = Lib.bytesWorld w 5 t) := Any.strconv_Atoi_ok Tryd.laysC172 s (by omega) v h w
  refine c.mono fun e w' ⟨he, hw⟩ => ⟨he, ?_⟩
  rcases hw with rfl | ⟨t, rfl⟩
  · exact Below.refl _ _
  · exact Lib.bytesWorld_below _ _ _

theorem atoi_fails (s : ByteArray) (w : World) (hE : EnvE w) (hs : s.size ≤ 1048576) (h : ∀ v, Lib.atoiAll s.data.toList ≠ .ok v) :
    Calls Tryd.prog 28 #[.string s] w fun e w' => ∃ (N : Nat) (v : Int), e = .returned (.tuple #[.int .i64 v, .iface 65 (.pointer (some ⟨N, 0, none⟩))]) ∧ Below w.heap.size w w' := by
  cases h2 : Lib.atoiAll s.data.toList with
  | ok v => exact absurd h2 (h v)
  | range =>
    obtain ⟨tp, p, hv⟩ := hE.rng
    exact Calls.mono (show Calls Tryd.prog 28 #[.string s] w _ from Any.strconv_Atoi_range_var Tryd.laysC172 s (by omega) h2 tp p w hv) fun e w' ⟨N, he, _, _, hb⟩ => ⟨N, _, he, hb⟩
  | _ =>
    obtain ⟨tp, p, hv⟩ := hE.syn
    exact Calls.mono (show Calls Tryd.prog 28 #[.string s] w _ from Any.strconv_Atoi_syntax_var Tryd.laysC172 s (by omega) h2 tp p w hv) fun e w' ⟨N, he, _, _, hb⟩ => ⟨N, _, he, hb⟩

theorem implParseInt_yes (s : ByteArray) (n : Int) (w : World) (hE : EnvE w) (hs : s.size ≤ 1048576) (h : Spells s.data.toList n) :
    Calls Tryd.prog 13 #[.string s] w fun e w' => e = .returned (.tuple #[.int .i64 n, .bool true]) ∧ Below w.heap.size w w' := by
  have HT2 : Hid ((⟨(Lib.itoa n).toArray⟩ : ByteArray) = s) := by
    show _ = _
    rw [h.2.2]
  have HA := Lib.hid h.atoi
  obtain ⟨h0, h1, -⟩ := h
  go_enter Tryd.func13, Tryd.ntmps13
  go_wp2_with (first | (go_at_call 28; refine (atoi_ok s n _ hs HA.out).mono ?_; rintro e w1 ⟨rfl, hb1⟩) | (go_at_call 10; refine (implFormatInt_yes n _ (hE.next hb1).toEnv h0 h1).mono ?_; rintro e w2 ⟨rfl, hb2⟩; rw [HT2.out]))
  go_ret2
  exact ⟨rfl, hb1.trans (hb2.mono hb1.size)⟩

theorem implParseInt_no (s : ByteArray) (w : World) (hE : EnvE w) (hs : s.size ≤ 1048576) (h : ∀ n, ¬ Spells s.data.toList n) :
    Calls Tryd.prog 13 #[.string s] w fun e w' => e = .returned (.tuple #[.int .i64 0, .bool false]) ∧ Below w.heap.size w w' := by
  have HI := Lib.hid h
  clear h
  by_cases hv : ∃ v, Lib.atoiAll s.data.toList = .ok v
  · obtain ⟨v, hv⟩ := hv
    have HA := Lib.hid hv
    clear hv
    by_cases hin : -999999 ≤ v ∧ v ≤ 999999
    · obtain ⟨h0, h1⟩ := hin
      have HC := Lib.hid (itoa_ne (v := v) HI.out h0 h1)
      go_enter Tryd.func13, Tryd.ntmps13
      go_wp2_with (first | (go_at_call 28; refine (atoi_ok s v _ hs HA.out).mono ?_; rintro e w1 ⟨rfl, hb1⟩) | (go_at_call 10; refine (implFormatInt_yes v _ (hE.next hb1).toEnv h0 h1).mono ?_; rintro e w2 ⟨rfl, hb2⟩; have hc := HC.out; generalize (⟨(Lib.itoa v).toArray⟩ : ByteArray) = t2 at hc ⊢))
      go_ret2
      exact ⟨rfl, hb1.trans (hb2.mono hb1.size)⟩
    · have HN := Lib.hid (show v < -999999 ∨ 999999 < v by omega)
      clear hin
      go_enter Tryd.func13, Tryd.ntmps13
      go_wp2_with (first | (go_at_call 28; refine (atoi_ok s v _ hs HA.out).mono ?_; rintro e w1 ⟨rfl, hb1⟩) | (go_at_call 10; refine (implFormatInt_no v _ HN.out).mono ?_; rintro e w2 ⟨rfl, rfl⟩))
      go_ret2
      exact ⟨rfl, hb1⟩
  · have HV := Lib.hid (show ∀ v, Lib.atoiAll s.data.toList ≠ .ok v from fun v e => hv ⟨v, e⟩)
    clear hv
    go_enter Tryd.func13, Tryd.ntmps13
    go_wp2_with (go_at_call 28; refine (atoi_fails s _ hE hs HV.out).mono ?_; rintro e w1 ⟨N, v, rfl, hb1⟩)
    go_ret2
    exact ⟨rfl, hb1⟩
end Go.Proofs.YtgbnpdgehknfpaaDoor.parse
