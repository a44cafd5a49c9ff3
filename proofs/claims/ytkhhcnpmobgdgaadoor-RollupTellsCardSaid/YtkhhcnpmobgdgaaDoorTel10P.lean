/- For any rows, any span, any most, second, horizons, service, operation and level: RollupTells answers true: what any rows are with a span more, which are behind, and which are found. Conditions: none; the tables of lengths and bounds are tied to the program's text. -/
import Derived.Test.YtkhhcnpmobgdgaaDoorYx
import Derived.Test.YtkhhcnpmobgdgaaDoorYw
import Derived.Test.YtkhhcnpmobgdgaaDoorBs
import Derived.Test.YtkhhcnpmobgdgaaDoorCards
import Derived.Test.YtkhhcnpmobgdgaaDoorTie
import Derived.Deep.DeepHandedRow
import Derived.Lib.LaidTab
namespace Go.Proofs.YtkhhcnpmobgdgaaDoor.P_RollupTells
open Go.ChangeShapes Go.WideShapes Go.ChangeAt Go.RowKit
set_option linter.unusedVariables false
set_option maxRecDepth 100000
theorem own : ownKnob Tryd.prog.godebug = none := by kernel_rfl
theorem laidOut : laidOutB Tryd.prog = true := by kernel_rfl
theorem readable : ∀ t ∈ Tryd.f3.params.toList, Tryd.prog.readableRec t = true ∧ t < Tryd.prog.types.size := by
  rw [Tryd.params3]
  intro t ht
  simp only [List.mem_cons, List.not_mem_nil, or_false] at ht
  rcases ht with rfl | rfl | rfl | rfl | rfl | rfl | rfl | rfl <;> exact ⟨by kernel_rfl, of_decide_eq_true (by kernel_rfl)⟩
theorem walk (w : World) (lA : Option Addr) (l : List Rw) (ln lc : Nat) (el : ln = l.length) (rl : Rd w w.heap.size lA (l.flatMap Rw.cells)) (ol : okL l) (ll : ln ≤ lc) (zl : lA = none → lc = 0) (s : Ls) (rs : RdL w w.heap.size s) (m : Int) (wm : (Lit.int .i64 m).wf = true) (sec : Int) (wsec : (Lit.int .i64 sec).wf = true) (h0 h1 h2 : Int) (oh0 : -9223372036854775808 ≤ h0 ∧ h0 ≤ 9223372036854775807) (oh1 : -9223372036854775808 ≤ h1 ∧ h1 ≤ 9223372036854775807) (oh2 : -9223372036854775808 ≤ h2 ∧ h2 ≤ 9223372036854775807) (fsv : ByteArray) (wfsv : fsv.size ≤ maxLen) (fop : ByteArray) (wfop : fop.size ≤ maxLen) (flv : Int) (wflv : (Lit.int .i64 flv).wf = true) (T0 : ∀ i (h : i < 3), w.cell? ⟨1, i, none⟩ = some (.int .i64 (([60, 3600, 86400] : List Int).getD i 0))) (T1 : ∀ i (h : i < 7), w.cell? ⟨4, i, none⟩ = some (.int .i64 (([1, 5, 10, 50, 100, 500, 1000] : List Int).getD i 0))) :
    Calls Tryd.prog 3 #[.slice lA ln lc, .agg s.cells.toArray, .int .i64 m, .int .i64 sec, .agg #[.int .i64 h0, .int .i64 h1, .int .i64 h2], .string fsv, .string fop, .int .i64 flv] w fun e w' => e = .returned (.bool true) ∧ Below w.heap.size w w' := by
  have TL : Lens w := ⟨T0 0 (by decide), T0 1 (by decide), T0 2 (by decide)⟩
  have TB : Bnds w := fun i hi => T1 i hi
  have hm := bounds_i64 wm
  have hsec := bounds_i64 wsec
  obtain ⟨⟨x0, x1, x2, x3, x4, x5, x6, x7, x8, ats⟩, xA, xc⟩ := s
  exact tells10 lA l ln lc x0 x1 x2 x3 x4 x5 x6 x7 x8 ats xA xc ats.length m sec h0 h1 h2 fsv fop flv w el rl ol ll zl rfl rs hm.1 hm.2 hsec oh0 oh1 oh2 TB TL
theorem gTab0 : Tryd.prog.globalNamed "gleaning/window.lengths" = some 1 := by kernel_rfl
theorem gTabType0 : (Tryd.prog.globals[1]?).map (·.type) = some 29 := by kernel_rfl
theorem cellsA0 : Tryd.prog.cellsOf 29 = 3 := by kernel_rfl
theorem cellsE0 : Tryd.prog.cellsOf 3 = 1 := by kernel_rfl
theorem gTab1 : Tryd.prog.globalNamed "gleaning/bucket.bounds" = some 4 := by kernel_rfl
theorem gTabType1 : (Tryd.prog.globals[4]?).map (·.type) = some 130 := by kernel_rfl
theorem cellsA1 : Tryd.prog.cellsOf 130 = 7 := by kernel_rfl
theorem cellsE1 : Tryd.prog.cellsOf 3 = 1 := by kernel_rfl
theorem table0 {W : World} (h : laidMetH Tryd.prog Rows.rollupTellsRow.laid W) : Lib.TabIs Tryd.prog W "gleaning/window.lengths" .i64 [60, 3600, 86400] :=
  Lib.tabIs_of_head gTab0 gTabType0 Tryd.underlying29 Tryd.underlying3 cellsE0 cellsA0 h
theorem laid_tail {P : Program} {w : World} {x : String × DataW Unit} {l : List (String × DataW Unit)} (h : laidMet P (x :: l) w) : laidMet P l w := by
  obtain ⟨ps, hl, hnd, hrows⟩ := h
  obtain ⟨g, t, cs, fuel, p, q, e1, e2, e3, e4, hr, rfl⟩ := hl
  exact ⟨q, hr, hnd.sublist (List.sublist_append_right _ _), fun b off hp => hrows b off (List.mem_append_right _ hp)⟩
set_option maxRecDepth 100000 in
theorem laid0 {W : World} (h : laidMetH Tryd.prog Rows.rollupTellsRow.laid W) : laidMet Tryd.prog [("gleaning/window.lengths", Lib.tabData .i64 [60, 3600, 86400]), ("gleaning/bucket.bounds", Lib.tabData .i64 [1, 5, 10, 50, 100, 500, 1000])] W := h
set_option maxRecDepth 100000 in
theorem table1 {W : World} (h : laidMetH Tryd.prog Rows.rollupTellsRow.laid W) : Lib.TabIs Tryd.prog W "gleaning/bucket.bounds" .i64 [1, 5, 10, 50, 100, 500, 1000] :=
  Lib.tabIs_of_head gTab1 gTabType1 Tryd.underlying130 Tryd.underlying3 cellsE1 cellsA1 (laid_tail (laid0 h))
theorem contract (H : Type) (enc : TypeId × Value → H) (W : World) (base : Nat) (args : Array Value) (ds gs : List (DataW H)) (before : List MemPlace)
    (hval : ∀ (j : Nat) t v, Tryd.f3.params[j]? = some t → args[j]? = some v → Value.okWide Tryd.prog W .any base t v)
    (hW : DataW.Whole enc Tryd.prog Tryd.f3.params.toList Rows.rollupTellsSpec.vars false W args.toList ds gs before) (hL : laidMetH Tryd.prog Rows.rollupTellsRow.laid W) :
    Calls Tryd.prog 3 args W fun e W' => ∃ v, e = .returned v ∧ Rows.rollupTellsSpec.post enc Tryd.prog Tryd.f3 false true false false W args v W' := by
  have hW' := hW
  obtain ⟨p, q, hA0, hV, rfl, hfz, hnd⟩ := hW
  have hA : DataW.TrodAll enc Tryd.prog W 0 (fun _ => true) true Tryd.f3.params.toList args.toList ds p := hA0
  rw [Tryd.params3] at hA hval
  obtain ⟨v0, vs0, d0, ds0, p0, q0, hargs, rfl, rfl, h0, r0⟩ := trodAll_cons hA
  obtain ⟨v1, vs1, d1, ds1, p1, q1, rfl, rfl, rfl, h1, r1⟩ := trodAll_cons r0
  obtain ⟨v2, vs2, d2, ds2, p2, q2, rfl, rfl, rfl, h2, r2⟩ := trodAll_cons r1
  obtain ⟨v3, vs3, d3, ds3, p3, q3, rfl, rfl, rfl, h3, r3⟩ := trodAll_cons r2
  obtain ⟨v4, vs4, d4, ds4, p4, q4, rfl, rfl, rfl, h4, r4⟩ := trodAll_cons r3
  obtain ⟨v5, vs5, d5, ds5, p5, q5, rfl, rfl, rfl, h5, r5⟩ := trodAll_cons r4
  obtain ⟨v6, vs6, d6, ds6, p6, q6, rfl, rfl, rfl, h6, r6⟩ := trodAll_cons r5
  obtain ⟨v7, vs7, d7, ds7, p7, q7, rfl, rfl, rfl, h7, r7⟩ := trodAll_cons r6
  obtain ⟨rfl, rfl, rfl⟩ := trodAll_nil r7
  obtain rfl : args = #[v0, v1, v2, v3, v4, v5, v6, v7] := by cases args; simp_all
  obtain ⟨rfl, rfl⟩ := trodVars_none hV
  obtain ⟨lA, l, ln, lc, rfl, el, rl, ol, ll, zl⟩ := open_rws (hval 0 22 v0 rfl rfl) h0
  obtain ⟨s, rfl, rs⟩ := open_span (hval 1 28 v1 rfl rfl) h1
  obtain ⟨m, rfl, _, _, wm⟩ := open_int Tryd.underlying3 (hval 2 3 v2 rfl rfl) h2
  obtain ⟨sec, rfl, _, _, wsec⟩ := open_int Tryd.underlying3 (hval 3 3 v3 rfl rfl) h3
  obtain ⟨h0, h1, h2, rfl, oh0, oh1, oh2⟩ := open_arr3 (hval 4 29 v4 rfl rfl) h4
  obtain ⟨fsv, rfl, _, _, wfsv'⟩ := Go.ChangeMaps.open_string Tryd.underlying9 (hval 5 9 v5 rfl rfl) h5
  have wfsv : fsv.size ≤ maxLen := wfsv'
  obtain ⟨fop, rfl, _, _, wfop'⟩ := Go.ChangeMaps.open_string Tryd.underlying9 (hval 6 9 v6 rfl rfl) h6
  have wfop : fop.size ≤ maxLen := wfop'
  obtain ⟨flv, rfl, _, _, wflv⟩ := open_int Tryd.underlying3 (hval 7 3 v7 rfl rfl) h7
  refine (walk W lA l ln lc el rl ol ll zl s rs m wm sec wsec h0 h1 h2 oh0 oh1 oh2 fsv wfsv fop wfop flv wflv (fun i hi => (table0 hL).cell gTab0 i hi) (fun i hi => (table1 hL).cell gTab1 i hi)).mono fun e W' ⟨he, hg⟩ => ?_
  subst he
  exact ⟨_, rfl, post_law laidOut readable rfl rfl Tryd.underlying4 hW' rfl rfl rfl hg⟩

noncomputable def laidWorld (os : Os) : World :=
  { World.holding Tryd.prog os ⟨#[], #[], []⟩ with heap := (((World.holding Tryd.prog os ⟨#[], #[], []⟩).heap.modify 1 fun | .cells _ t frozen => .cells #[.int .i64 60, .int .i64 3600, .int .i64 86400] t frozen | o => o).modify 4 fun | .cells _ t frozen => .cells #[.int .i64 1, .int .i64 5, .int .i64 10, .int .i64 50, .int .i64 100, .int .i64 500, .int .i64 1000] t frozen | o => o) }
theorem laid_met (os : Os) : laidMet Tryd.prog Rows.rollupTellsRow.laid ((laidWorld os).forCall (fun _ _ => 0) ⟨#[], #[.slice none 0 0, .agg #[.int .u64 0, .int .u64 0, .int .u64 0, .int .u64 0, .string ByteArray.empty, .string ByteArray.empty, .int .i64 0, .int .i64 0, .bool false, .slice none 0 0], .int .i64 0, .int .i64 0, .agg #[.int .i64 0, .int .i64 0, .int .i64 0], .string ByteArray.empty, .string ByteArray.empty, .int .i64 0], []⟩).memory :=
  laidMet_of_run' 8 (by kernel_rfl) (by kernel_rfl)
theorem reads (os : Os) {H : Type} (enc : TypeId × Value → H) : ∃ places, DataW.whole enc Tryd.prog ((laidWorld os).forCall (fun _ _ => 0) ⟨#[], #[.slice none 0 0, .agg #[.int .u64 0, .int .u64 0, .int .u64 0, .int .u64 0, .string ByteArray.empty, .string ByteArray.empty, .int .i64 0, .int .i64 0, .bool false, .slice none 0 0], .int .i64 0, .int .i64 0, .agg #[.int .i64 0, .int .i64 0, .int .i64 0], .string ByteArray.empty, .string ByteArray.empty, .int .i64 0], []⟩).memory Tryd.f3.params.toList Rows.rollupTellsSpec.vars false (#[.slice none 0 0, .agg #[.int .u64 0, .int .u64 0, .int .u64 0, .int .u64 0, .string ByteArray.empty, .string ByteArray.empty, .int .i64 0, .int .i64 0, .bool false, .slice none 0 0], .int .i64 0, .int .i64 0, .agg #[.int .i64 0, .int .i64 0, .int .i64 0], .string ByteArray.empty, .string ByteArray.empty, .int .i64 0] : Array Value).toList 8 = some ([.nil, .agg [.agg [.lit (.int .u64 0), .lit (.int .u64 0)], .lit (.int .u64 0), .lit (.int .u64 0), .lit (.string []), .lit (.string []), .lit (.int .i64 0), .lit (.int .i64 0), .lit (.bool false), .nil], .lit (.int .i64 0), .lit (.int .i64 0), .agg [.lit (.int .i64 0), .lit (.int .i64 0), .lit (.int .i64 0)], .lit (.string []), .lit (.string []), .lit (.int .i64 0)], [], places) :=
  ⟨[], by kernel_rfl⟩

set_option maxRecDepth 100000 in
theorem lifted (os : Os) (started : os.Started) (H : Type) (enc : TypeId × Value → H) (F : Stop.Interp) :
    ReturnsInHanded {} Tryd.checked os 3 .any ((OpenSpec.ofChange Rows.rollupTellsSpec).preRow enc Tryd.prog Tryd.f3 Rows.rollupTellsRow.domain false Rows.rollupTellsRow.laid) (((OpenSpec.ofChange Rows.rollupTellsSpec).at F).post enc Tryd.prog Tryd.f3 false true false false) := by
  obtain ⟨places, hx⟩ := reads os enc
  refine returnsInHanded_of_row (C := Tryd.checked) (s := OpenSpec.ofChange Rows.rollupTellsSpec) own started (by kernel_rfl) Tryd.func3
    (witness_row_at (enc := enc) (C := Tryd.checked) false (laidWorld os) #[.slice none 0 0, .agg #[.int .u64 0, .int .u64 0, .int .u64 0, .int .u64 0, .string ByteArray.empty, .string ByteArray.empty, .int .i64 0, .int .i64 0, .bool false, .slice none 0 0], .int .i64 0, .int .i64 0, .agg #[.int .i64 0, .int .i64 0, .int .i64 0], .string ByteArray.empty, .string ByteArray.empty, .int .i64 0] rfl (by kernel_rfl) (by kernel_rfl) (by kernel_rfl)
      (OpenSpec.preRow_of_cond 8 hx (by kernel_rfl) (fun k hk => by cases hk) (by kernel_rfl) (laid_met os))) ?_
  intro W base args ds gs before hval hW _ _ _ hL _ _
  exact contract H enc W base args ds gs before hval hW hL

theorem said : Rows.RollupTellsSaid :=
  OpenClaim.holds_of_cond 3 Tryd.f3 rfl rfl rfl rfl rfl rfl rfl ⟨rfl, rfl, rfl, rfl, rfl⟩ rfl rfl rfl rfl rfl (by kernel_rfl) Tryd.func3 (by kernel_rfl)
    (of_decide_eq_true (by kernel_rfl)) (by unfold Func.isWrapper; first | (rw [if_pos (by decide +kernel)]; kernel_rfl) | (rw [if_neg (by decide +kernel)]; exact ⟨rfl, rfl⟩))
    (fun os started H enc _ F => by rw [OpenClaim.pre_eq_preRow]; exact lifted os started H enc F)

theorem plain (f : FuncId) (fn : Func) (hf : Tryd.pinned.checked.prog.funcNamed "gleaning/gleaninglaw10.RollupTells" = some f) (hfn : Tryd.pinned.checked.prog.funcs[f]? = some fn) :
    false = Tryd.pinned.checked.prog.looks [] ∧ ∀ (j : Nat) t, fn.params[j]? = some t → Tryd.pinned.checked.prog.wantsStandIn t = false := by
  obtain rfl : f = 3 := Option.some.inj ((show Tryd.prog.funcNamed "gleaning/gleaninglaw10.RollupTells" = some 3 by kernel_rfl).symm.trans hf) |>.symm
  obtain rfl : fn = Tryd.f3 := (Option.some.inj (Tryd.func3.symm.trans hfn)).symm
  refine ⟨by kernel_rfl, fun j t ht => ?_⟩
  rw [Tryd.params3] at ht
  have hm := Array.mem_of_getElem? ht
  simp only [List.mem_toArray, List.mem_cons, List.not_mem_nil, or_false] at hm
  rcases hm with rfl | rfl | rfl | rfl | rfl | rfl | rfl | rfl <;> first | exact (show Tryd.prog.wantsStandIn 22 = false by kernel_rfl) | exact (show Tryd.prog.wantsStandIn 28 = false by kernel_rfl) | exact (show Tryd.prog.wantsStandIn 3 = false by kernel_rfl) | exact (show Tryd.prog.wantsStandIn 29 = false by kernel_rfl) | exact (show Tryd.prog.wantsStandIn 9 = false by kernel_rfl)

theorem card : Rows.RollupTellsCardSaid :=
  Claim7.holds_tied_plain_at .later [] _ _ _ _ said (fun _ h => by cases h) (by kernel_rfl) (fun _ h => by cases h) rollupTells_row_tie rfl ⟨rfl, rfl⟩ (by kernel_rfl) rfl plain (by kernel_rfl)
end Go.Proofs.YtkhhcnpmobgdgaaDoor.P_RollupTells
