/- Exemplars let go, and found. -/
import Derived.Test.YtajpnimjkkmcmaaZia
import Derived.Laws.MakeOwn
namespace Go.Proofs.Ytajpnimjkkmcmaa
open Go.RowKit
set_option linter.unusedVariables false
set_option linter.unusedSimpArgs false
set_option maxRecDepth 100000

theorem strx_inj {s t : ByteArray} (h : s.toList = t.toList) : s = t := by
  have e : ∀ s : ByteArray, s.toList = s.data.toList := fun s => by
    obtain ⟨⟨l⟩⟩ := s
    exact ByteArray.toList_mk l
  rw [e, e] at h
  exact ByteArray.ext (Array.toList_inj.mp h)
/-- Exemplars in memory of one's own: what a call hands back. -/
def RowX (L : List Ex) (w : World) (ex : Ending) (w' : World) : Prop :=
  ∃ (A' : Option Addr) (n' c' : Nat), ex = .returned (.slice A' n' c') ∧ n' = L.length ∧ w'.ownsRow w.heap.size 38 6 (.slice A' n' c') n' (L.flatMap Ex.cells) ∧ Below w.heap.size w w'
theorem appX {w : World} {base n : Nat} {v : Value} {xs : List Value} {ty : TypeId} (h : w.ownsRow base 38 6 v n xs) (e : Ex) (hn : n ≤ 1000000) (hbase : base ≤ w.heap.size) :
    ∃ v' w', (Builtin.append_ #[24, 24] ty #[v, .slice (some ⟨w.heap.size, 0, none⟩) 1 1]).run Try.prog (w.alloc (.cells #[.string e.sv, .string e.op, .int .u64 e.hi, .int .u64 e.lo, .int .u64 e.id, .int .i64 e.bl] 38)) = .ok v' w' ∧ (w'.ownsRow base 38 6 v' (n + 1) (xs ++ e.cells) ∧ Grew w w' v v') := by
  obtain ⟨i0, hi, hz0, hz1, hz2⟩ := info_parts x_info
  have hq := heap_alloc_new w (.cells #[.string e.sv, .string e.op, .int .u64 e.hi, .int .u64 e.lo, .int .u64 e.id, .int .i64 e.bl] 38)
  obtain ⟨v', w', r1, r2, r3⟩ := run_append_rd (P := Try.prog) (w.alloc (.cells #[.string e.sv, .string e.op, .int .u64 e.hi, .int .u64 e.lo, .int .u64 e.id, .int .i64 e.bl] 38)) base 24 ty 38 i0 _ 6 64 Try.underlying24 hi hz0 hz1 hz2 rfl v n xs (own_below h ((Below.refl w.heap.size w).alloc (Nat.le_refl _) _)) (w.heap.size + 1) (some ⟨w.heap.size, 0, none⟩) 1 1 e.cells rfl
    (fun _ => ⟨_, rfl, Nat.lt_succ_self _, fun j u hu => by
      rw [Addr.add_lit, Nat.zero_add, cell_of_row _ w.heap.size j _ _ (0, 0) hq]
      simpa [Ex.cells] using hu⟩) (xcells_one1 e) (by unfold maxLen; omega) (by omega) (by simp; omega)
  exact ⟨v', w', r1, r2, r3.alloc⟩
set_option maxHeartbeats 8000000 in
theorem find_any (A : Option Addr) (n c : Nat) (l : List Ex) (sv op : ByteArray) (B : Nat) (w : World) (g : Ex → List Ex) (hgd : ∀ x, g x = if x.sv = sv ∧ x.op = op then [x] else []) (hn : n = l.length) (hr : Rd w B A (l.flatMap Ex.cells)) (hB : B ≤ w.heap.size) (hsm : n ≤ 100000) :
    Calls Try.prog 20 #[.slice A n c, .string sv, .string op] w (RowX (l.flatMap g) w) := by
  have HR := Lib.hid hr
  have HN := Lib.hid hn
  have HGL := Lib.hid (fun x => (by rw [hgd x]; split <;> simp : (g x).length ≤ 1))
  clear hr hn
  go_enter Try.func20, Try.ntmps20
  go_wp2
  go_loopw [7, 12] (fun o i wr => ∃ (k n' c' : Nat) (A' : Option Addr), k ≤ n ∧ i = .int .i64 k ∧ o = .slice A' n' c' ∧ n' ≤ k ∧ Hid (n' = ((l.take k).flatMap g).length) ∧ Hid (wr.ownsRow w.heap.size 38 6 (.slice A' n' c') n' (((l.take k).flatMap g).flatMap Ex.cells)) ∧ Hid (Below w.heap.size w wr)) (fun _ i _ => n - (intOf i).toNat)
  case atStart => exact ⟨0, 0, 0, none, Nat.zero_le _, rfl, rfl, Nat.le_refl _, Lib.hid rfl, World.ownsRow_nil _ _ _ _, Lib.hid (Below.refl _ _)⟩
  case round =>
    obtain ⟨k, n', c', A', hk, rfl, rfl, hn'k, HN', HO, HB⟩ := hrel
    have hws := HB.out.size
    by_cases hlt : k < n
    · obtain ⟨x, hx⟩ : ∃ x, l[k]? = some x := ⟨l[k]'(by rw [← HN.out]; exact hlt), List.getElem?_eq_getElem _⟩
      obtain ⟨a, rfl, hab, hcc⟩ := ex_at (HR.out.keep (fun p hp => HB.out.cell (Nat.lt_of_lt_of_le hp hB))) hx
      have x0 : wr.cell? (a.add (k * 6)) = some (.string x.sv) := hcc 0 _ rfl
      have x1 : wr.cell? ⟨(a.add (k * 6)).block, (a.add (k * 6)).off + 1, none⟩ = some (.string x.op) := cell_far (hcc 1 _ rfl) (by decide)
      have x2 : wr.cell? ⟨(a.add (k * 6)).block, (a.add (k * 6)).off + 2, none⟩ = some (.int .u64 x.hi) := cell_far (hcc 2 _ rfl) (by decide)
      have x3 : wr.cell? ⟨(a.add (k * 6)).block, (a.add (k * 6)).off + 3, none⟩ = some (.int .u64 x.lo) := cell_far (hcc 3 _ rfl) (by decide)
      have x4 : wr.cell? ⟨(a.add (k * 6)).block, (a.add (k * 6)).off + 4, none⟩ = some (.int .u64 x.id) := cell_far (hcc 4 _ rfl) (by decide)
      have x5 : wr.cell? ⟨(a.add (k * 6)).block, (a.add (k * 6)).off + 5, none⟩ = some (.int .i64 x.bl) := cell_far (hcc 5 _ rfl) (by decide)
      have HST := Lib.hid (show (l.take (k + 1)).flatMap g = (l.take k).flatMap g ++ g x from by rw [List.take_add_one, hx, List.flatMap_append]; simp)
      have i1 : (k : Int) < (n : Int) := by omega
      have i0 : (0 : Int) ≤ (k : Int) := by omega
      clear hcc hx
      go_upto_region 5 with fail
      have hq5 := heap_alloc_new wr (.cells #[.string x.sv, .string x.op, .int .u64 x.hi, .int .u64 x.lo, .int .u64 x.id, .int .i64 x.bl] 38)
      have HO5 := Lib.hid (own_below HO.out ((Below.refl wr.heap.size wr).alloc (Nat.le_refl _) (.cells #[.string x.sv, .string x.op, .int .u64 x.hi, .int .u64 x.lo, .int .u64 x.id, .int .i64 x.bl] 38)))
      have HB5 := Lib.hid (HB.out.alloc hws (.cells #[.string x.sv, .string x.op, .int .u64 x.hi, .int .u64 x.lo, .int .u64 x.id, .int .i64 x.bl] 38))
      have hs5 : w.heap.size ≤ (wr.alloc (.cells #[.string x.sv, .string x.op, .int .u64 x.hi, .int .u64 x.lo, .int .u64 x.id, .int .i64 x.bl] 38)).heap.size := by simp; omega
      have hob5 := own_block_ge HO5.out
      have hB5 := hs5
      clear x0 x1 x2 x3 x4 x5
      have x0 : (wr.alloc (.cells #[.string x.sv, .string x.op, .int .u64 x.hi, .int .u64 x.lo, .int .u64 x.id, .int .i64 x.bl] 38)).cell? ⟨wr.heap.size, 0, none⟩ = some (.string x.sv) := cell_of_row _ _ 0 _ _ (0, 0) hq5
      have x1 : (wr.alloc (.cells #[.string x.sv, .string x.op, .int .u64 x.hi, .int .u64 x.lo, .int .u64 x.id, .int .i64 x.bl] 38)).cell? ⟨wr.heap.size, 1, none⟩ = some (.string x.op) := cell_of_row _ _ 1 _ _ (0, 0) hq5
      have x2 : (wr.alloc (.cells #[.string x.sv, .string x.op, .int .u64 x.hi, .int .u64 x.lo, .int .u64 x.id, .int .i64 x.bl] 38)).cell? ⟨wr.heap.size, 2, none⟩ = some (.int .u64 x.hi) := cell_of_row _ _ 2 _ _ (0, 0) hq5
      have x3 : (wr.alloc (.cells #[.string x.sv, .string x.op, .int .u64 x.hi, .int .u64 x.lo, .int .u64 x.id, .int .i64 x.bl] 38)).cell? ⟨wr.heap.size, 3, none⟩ = some (.int .u64 x.lo) := cell_of_row _ _ 3 _ _ (0, 0) hq5
      have x4 : (wr.alloc (.cells #[.string x.sv, .string x.op, .int .u64 x.hi, .int .u64 x.lo, .int .u64 x.id, .int .i64 x.bl] 38)).cell? ⟨wr.heap.size, 4, none⟩ = some (.int .u64 x.id) := cell_of_row _ _ 4 _ _ (0, 0) hq5
      have x5 : (wr.alloc (.cells #[.string x.sv, .string x.op, .int .u64 x.hi, .int .u64 x.lo, .int .u64 x.id, .int .i64 x.bl] 38)).cell? ⟨wr.heap.size, 5, none⟩ = some (.int .i64 x.bl) := cell_of_row _ _ 5 _ _ (0, 0) hq5
      generalize wr.alloc (.cells #[.string x.sv, .string x.op, .int .u64 x.hi, .int .u64 x.lo, .int .u64 x.id, .int .i64 x.bl] 38) = w5 at *
      generalize wr.heap.size = gx at *
      clear hq5
      by_cases h1 : x.sv = sv
      · subst h1
        by_cases h2 : x.op = op
        · subst h2
          have hg1 : g x = [x] := by simp [hgd, *]
          have APP := Lib.hid (fun ty => appX (ty := ty) HO5.out x (by omega) hs5)
          clear HO5
          go_wp2_with (at_builtin; refine wpList_app rfl (.tmp 26) (.tmp 28) _ _ rfl rfl rfl (APP.out _) ?_; rintro v8 w8 ⟨ho8, hg8⟩; obtain ⟨A8, c8, rfl, _, _⟩ := own_rd ho8; have HO8 := Lib.hid ho8; have HG8 := Lib.hid hg8; clear ho8 hg8)
          go_roundw
          case rel => exact ⟨k + 1, n' + 1, c8, A8, by omega, by go_num, rfl, by omega, by rw [HST.out, hg1, List.length_append, ← HN'.out]; rfl, by rw [HST.out, hg1, List.flatMap_append, List.flatMap_singleton]; exact HO8, Lib.hid ((HB5.out.grown HG8.out.grown hB5 (fun q hq => hob5 q hq)))⟩
          case measure => simp [intOf]; omega
        · have e2 : (x.op.toList == op.toList) = false := beq_eq_false_iff_ne.2 (fun h => h2 (strx_inj h))
          have hg0 : g x = [] := by simp [hgd, *]
          go_wp2_with fail
          go_roundw
          case rel => exact ⟨k + 1, n', c', A', by omega, by go_num, rfl, by omega, by rw [HST.out, hg0, List.append_nil]; exact HN', by rw [HST.out, hg0, List.append_nil]; exact HO5, HB5⟩
          case measure => simp [intOf]; omega
      · have e1 : (x.sv.toList == sv.toList) = false := beq_eq_false_iff_ne.2 (fun h => h1 (strx_inj h))
        have hg0 : g x = [] := by simp [hgd, *]
        go_wp2_with fail
        go_roundw
        case rel => exact ⟨k + 1, n', c', A', by omega, by go_num, rfl, by omega, by rw [HST.out, hg0, List.append_nil]; exact HN', by rw [HST.out, hg0, List.append_nil]; exact HO5, HB5⟩
        case measure => simp [intOf]; omega
    · obtain rfl : k = n := by omega
      have HE := Lib.hid (show (l.take k).flatMap g = l.flatMap g from by rw [List.take_of_length_le (by have := HN.out; omega)])
      go_wp2_with fail
      go_ret
      exact ⟨A', n', c', rfl, by rw [← HE.out]; exact HN'.out, by rw [← HE.out]; exact HO.out, HB.out⟩
set_option maxHeartbeats 8000000 in
theorem drop_any (A : Option Addr) (n c : Nat) (l : List Ex) (b : Int) (B : Nat) (w : World) (g : Ex → List Ex) (hgd : ∀ x, g x = if x.bl ≠ b then [x] else []) (hn : n = l.length) (hr : Rd w B A (l.flatMap Ex.cells)) (hB : B ≤ w.heap.size) (hsm : n ≤ 100000) :
    Calls Try.prog 15 #[.slice A n c, .int .i64 b] w (RowX (l.flatMap g) w) := by
  have HR := Lib.hid hr
  have HN := Lib.hid hn
  have HGL := Lib.hid (fun x => (by rw [hgd x]; split <;> simp : (g x).length ≤ 1))
  clear hr hn
  obtain ⟨i0, hi0, hz0, hz1, hz2⟩ := info_parts x_info
  obtain ⟨wm, hm1, hm2, hm3⟩ := run_make_own (P := Try.prog) w w.heap.size 24 38 i0 _ 6 Try.underlying24 hi0 hz0 hz1 .i64 .i64 n (by rw [hz2]; omega) (by unfold maxLen; omega) (Nat.le_refl _)
  have HM2 := Lib.hid hm2
  have HM3 := Lib.hid (show Below w.heap.size w wm from ⟨hm3.os, hm3.tape, hm3.output, hm3.size, fun i hi => hm3.block i hi (by simp)⟩)
  clear hm2 hm3 hi0 hz0 hz1 hz2
  go_enter Try.func15, Try.ntmps15
  go_wp2
  go_loopw [5, 13] (fun o i wr => ∃ (k n' c' : Nat) (A' : Option Addr), k ≤ n ∧ i = .int .i64 k ∧ o = .slice A' n' c' ∧ n' ≤ k ∧ Hid (n' = ((l.take k).flatMap g).length) ∧ Hid (wr.ownsRow w.heap.size 38 6 (.slice A' n' c') n' (((l.take k).flatMap g).flatMap Ex.cells)) ∧ Hid (Below w.heap.size w wr)) (fun _ i _ => n - (intOf i).toNat)
  case atStart => exact ⟨0, 0, n, some ⟨w.heap.size, 0, none⟩, Nat.zero_le _, rfl, rfl, Nat.le_refl _, Lib.hid rfl, Lib.hid (by simpa using HM2.out), HM3⟩
  case round =>
    obtain ⟨k, n', c', A', hk, rfl, rfl, hn'k, HN', HO, HB⟩ := hrel
    have hws := HB.out.size
    by_cases hlt : k < n
    · obtain ⟨x, hx⟩ : ∃ x, l[k]? = some x := ⟨l[k]'(by rw [← HN.out]; exact hlt), List.getElem?_eq_getElem _⟩
      obtain ⟨a, rfl, hab, hcc⟩ := ex_at (HR.out.keep (fun p hp => HB.out.cell (Nat.lt_of_lt_of_le hp hB))) hx
      have x0 : wr.cell? (a.add (k * 6)) = some (.string x.sv) := hcc 0 _ rfl
      have x1 : wr.cell? ⟨(a.add (k * 6)).block, (a.add (k * 6)).off + 1, none⟩ = some (.string x.op) := cell_far (hcc 1 _ rfl) (by decide)
      have x2 : wr.cell? ⟨(a.add (k * 6)).block, (a.add (k * 6)).off + 2, none⟩ = some (.int .u64 x.hi) := cell_far (hcc 2 _ rfl) (by decide)
      have x3 : wr.cell? ⟨(a.add (k * 6)).block, (a.add (k * 6)).off + 3, none⟩ = some (.int .u64 x.lo) := cell_far (hcc 3 _ rfl) (by decide)
      have x4 : wr.cell? ⟨(a.add (k * 6)).block, (a.add (k * 6)).off + 4, none⟩ = some (.int .u64 x.id) := cell_far (hcc 4 _ rfl) (by decide)
      have x5 : wr.cell? ⟨(a.add (k * 6)).block, (a.add (k * 6)).off + 5, none⟩ = some (.int .i64 x.bl) := cell_far (hcc 5 _ rfl) (by decide)
      have HST := Lib.hid (show (l.take (k + 1)).flatMap g = (l.take k).flatMap g ++ g x from by rw [List.take_add_one, hx, List.flatMap_append]; simp)
      have i1 : (k : Int) < (n : Int) := by omega
      have i0 : (0 : Int) ≤ (k : Int) := by omega
      clear hcc hx
      go_upto_region 5 with fail
      have hq5 := heap_alloc_new wr (.cells #[.string x.sv, .string x.op, .int .u64 x.hi, .int .u64 x.lo, .int .u64 x.id, .int .i64 x.bl] 38)
      have HO5 := Lib.hid (own_below HO.out ((Below.refl wr.heap.size wr).alloc (Nat.le_refl _) (.cells #[.string x.sv, .string x.op, .int .u64 x.hi, .int .u64 x.lo, .int .u64 x.id, .int .i64 x.bl] 38)))
      have HB5 := Lib.hid (HB.out.alloc hws (.cells #[.string x.sv, .string x.op, .int .u64 x.hi, .int .u64 x.lo, .int .u64 x.id, .int .i64 x.bl] 38))
      have hs5 : w.heap.size ≤ (wr.alloc (.cells #[.string x.sv, .string x.op, .int .u64 x.hi, .int .u64 x.lo, .int .u64 x.id, .int .i64 x.bl] 38)).heap.size := by simp; omega
      have hob5 := own_block_ge HO5.out
      have hB5 := hs5
      clear x0 x1 x2 x3 x4 x5
      have x0 : (wr.alloc (.cells #[.string x.sv, .string x.op, .int .u64 x.hi, .int .u64 x.lo, .int .u64 x.id, .int .i64 x.bl] 38)).cell? ⟨wr.heap.size, 0, none⟩ = some (.string x.sv) := cell_of_row _ _ 0 _ _ (0, 0) hq5
      have x1 : (wr.alloc (.cells #[.string x.sv, .string x.op, .int .u64 x.hi, .int .u64 x.lo, .int .u64 x.id, .int .i64 x.bl] 38)).cell? ⟨wr.heap.size, 1, none⟩ = some (.string x.op) := cell_of_row _ _ 1 _ _ (0, 0) hq5
      have x2 : (wr.alloc (.cells #[.string x.sv, .string x.op, .int .u64 x.hi, .int .u64 x.lo, .int .u64 x.id, .int .i64 x.bl] 38)).cell? ⟨wr.heap.size, 2, none⟩ = some (.int .u64 x.hi) := cell_of_row _ _ 2 _ _ (0, 0) hq5
      have x3 : (wr.alloc (.cells #[.string x.sv, .string x.op, .int .u64 x.hi, .int .u64 x.lo, .int .u64 x.id, .int .i64 x.bl] 38)).cell? ⟨wr.heap.size, 3, none⟩ = some (.int .u64 x.lo) := cell_of_row _ _ 3 _ _ (0, 0) hq5
      have x4 : (wr.alloc (.cells #[.string x.sv, .string x.op, .int .u64 x.hi, .int .u64 x.lo, .int .u64 x.id, .int .i64 x.bl] 38)).cell? ⟨wr.heap.size, 4, none⟩ = some (.int .u64 x.id) := cell_of_row _ _ 4 _ _ (0, 0) hq5
      have x5 : (wr.alloc (.cells #[.string x.sv, .string x.op, .int .u64 x.hi, .int .u64 x.lo, .int .u64 x.id, .int .i64 x.bl] 38)).cell? ⟨wr.heap.size, 5, none⟩ = some (.int .i64 x.bl) := cell_of_row _ _ 5 _ _ (0, 0) hq5
      generalize wr.alloc (.cells #[.string x.sv, .string x.op, .int .u64 x.hi, .int .u64 x.lo, .int .u64 x.id, .int .i64 x.bl] 38) = w5 at *
      generalize wr.heap.size = gx at *
      clear hq5
      by_cases h1 : x.bl ≠ b
      · have e1 : (x.bl != b) = true := by simpa using h1
        have hg1 : g x = [x] := by simp [hgd, *]
        have APP := Lib.hid (fun ty => appX (ty := ty) HO5.out x (by omega) hs5)
        clear HO5
        go_wp2_with (at_builtin; refine wpList_app rfl (.tmp 21) (.tmp 23) _ _ rfl rfl rfl (APP.out _) ?_; rintro v8 w8 ⟨ho8, hg8⟩; obtain ⟨A8, c8, rfl, _, _⟩ := own_rd ho8; have HO8 := Lib.hid ho8; have HG8 := Lib.hid hg8; clear ho8 hg8)
        go_roundw
        case rel => exact ⟨k + 1, n' + 1, c8, A8, by omega, by go_num, rfl, by omega, by rw [HST.out, hg1, List.length_append, ← HN'.out]; rfl, by rw [HST.out, hg1, List.flatMap_append, List.flatMap_singleton]; exact HO8, Lib.hid ((HB5.out.grown HG8.out.grown hB5 (fun q hq => hob5 q hq)))⟩
        case measure => simp [intOf]; omega
      · have h1 : x.bl = b := (by omega); have e1 : (x.bl != b) = false := by simpa using h1
        have hg0 : g x = [] := by simp [hgd, *]
        go_wp2_with fail
        go_roundw
        case rel => exact ⟨k + 1, n', c', A', by omega, by go_num, rfl, by omega, by rw [HST.out, hg0, List.append_nil]; exact HN', by rw [HST.out, hg0, List.append_nil]; exact HO5, HB5⟩
        case measure => simp [intOf]; omega
    · obtain rfl : k = n := by omega
      have HE := Lib.hid (show (l.take k).flatMap g = l.flatMap g from by rw [List.take_of_length_le (by have := HN.out; omega)])
      go_wp2_with fail
      go_ret
      exact ⟨A', n', c', rfl, by rw [← HE.out]; exact HN'.out, by rw [← HE.out]; exact HO.out, HB.out⟩
set_option maxHeartbeats 8000000 in
theorem dfind_any (A : Option Addr) (n c : Nat) (l : List Ex) (sv op : ByteArray) (B : Nat) (w : World) (g : Ex → List Ex) (hgd : ∀ x, g x = if x.sv = sv ∧ x.op = op then [x] else []) (hn : n = l.length) (hr : Rd w B A (l.flatMap Ex.cells)) (hB : B ≤ w.heap.size) (hsm : n ≤ 100000) :
    Calls Try.prog 21 #[.slice A n c, .string sv, .string op] w (RowX (l.flatMap g) w) := by
  have HR := Lib.hid hr
  have HN := Lib.hid hn
  have HGL := Lib.hid (fun x => (by rw [hgd x]; split <;> simp : (g x).length ≤ 1))
  clear hr hn
  go_enter Try.func21, Try.ntmps21
  go_wp2
  go_loopw [7, 8] (fun o i wr => ∃ (k n' c' : Nat) (A' : Option Addr), k ≤ n ∧ i = .int .i64 k ∧ o = .slice A' n' c' ∧ n' ≤ k ∧ Hid (n' = ((l.take k).flatMap g).length) ∧ Hid (wr.ownsRow w.heap.size 38 6 (.slice A' n' c') n' (((l.take k).flatMap g).flatMap Ex.cells)) ∧ Hid (Below w.heap.size w wr)) (fun _ i _ => n - (intOf i).toNat)
  case atStart => exact ⟨0, 0, 0, none, Nat.zero_le _, rfl, rfl, Nat.le_refl _, Lib.hid rfl, World.ownsRow_nil _ _ _ _, Lib.hid (Below.refl _ _)⟩
  case round =>
    obtain ⟨k, n', c', A', hk, rfl, rfl, hn'k, HN', HO, HB⟩ := hrel
    have hws := HB.out.size
    by_cases hlt : k < n
    · obtain ⟨x, hx⟩ : ∃ x, l[k]? = some x := ⟨l[k]'(by rw [← HN.out]; exact hlt), List.getElem?_eq_getElem _⟩
      obtain ⟨a, rfl, hab, hcc⟩ := ex_at (HR.out.keep (fun p hp => HB.out.cell (Nat.lt_of_lt_of_le hp hB))) hx
      have x0 : wr.cell? (a.add (k * 6)) = some (.string x.sv) := hcc 0 _ rfl
      have x1 : wr.cell? ⟨(a.add (k * 6)).block, (a.add (k * 6)).off + 1, none⟩ = some (.string x.op) := cell_far (hcc 1 _ rfl) (by decide)
      have x2 : wr.cell? ⟨(a.add (k * 6)).block, (a.add (k * 6)).off + 2, none⟩ = some (.int .u64 x.hi) := cell_far (hcc 2 _ rfl) (by decide)
      have x3 : wr.cell? ⟨(a.add (k * 6)).block, (a.add (k * 6)).off + 3, none⟩ = some (.int .u64 x.lo) := cell_far (hcc 3 _ rfl) (by decide)
      have x4 : wr.cell? ⟨(a.add (k * 6)).block, (a.add (k * 6)).off + 4, none⟩ = some (.int .u64 x.id) := cell_far (hcc 4 _ rfl) (by decide)
      have x5 : wr.cell? ⟨(a.add (k * 6)).block, (a.add (k * 6)).off + 5, none⟩ = some (.int .i64 x.bl) := cell_far (hcc 5 _ rfl) (by decide)
      have HST := Lib.hid (show (l.take (k + 1)).flatMap g = (l.take k).flatMap g ++ g x from by rw [List.take_add_one, hx, List.flatMap_append]; simp)
      have i1 : (k : Int) < (n : Int) := by omega
      have i0 : (0 : Int) ≤ (k : Int) := by omega
      clear hcc hx
      have HO5 := HO
      have HB5 := HB
      have hs5 := hws
      have hob5 := own_block_ge HO.out
      have hB5 := hws
      by_cases h1 : x.sv = sv
      · subst h1
        by_cases h2 : x.op = op
        · subst h2
          have hg1 : g x = [x] := by simp [hgd, *]
          have APP := Lib.hid (fun ty => appX (ty := ty) HO5.out x (by omega) hs5)
          clear HO5
          go_wp2_with (at_builtin; refine wpList_app rfl (.tmp 31) (.tmp 36) _ _ rfl rfl rfl (APP.out _) ?_; rintro v8 w8 ⟨ho8, hg8⟩; obtain ⟨A8, c8, rfl, _, _⟩ := own_rd ho8; have HO8 := Lib.hid ho8; have HG8 := Lib.hid hg8; clear ho8 hg8)
          go_roundw
          case rel => exact ⟨k + 1, n' + 1, c8, A8, by omega, by go_num, rfl, by omega, by rw [HST.out, hg1, List.length_append, ← HN'.out]; rfl, by rw [HST.out, hg1, List.flatMap_append, List.flatMap_singleton]; exact HO8, Lib.hid ((HB5.out.grown HG8.out.grown hB5 (fun q hq => hob5 q hq)))⟩
          case measure => simp [intOf]; omega
        · have e2 : (x.op.toList == op.toList) = false := beq_eq_false_iff_ne.2 (fun h => h2 (strx_inj h))
          have hg0 : g x = [] := by simp [hgd, *]
          go_wp2_with fail
          go_roundw
          case rel => exact ⟨k + 1, n', c', A', by omega, by go_num, rfl, by omega, by rw [HST.out, hg0, List.append_nil]; exact HN', by rw [HST.out, hg0, List.append_nil]; exact HO5, HB5⟩
          case measure => simp [intOf]; omega
      · have e1 : (x.sv.toList == sv.toList) = false := beq_eq_false_iff_ne.2 (fun h => h1 (strx_inj h))
        have hg0 : g x = [] := by simp [hgd, *]
        go_wp2_with fail
        go_roundw
        case rel => exact ⟨k + 1, n', c', A', by omega, by go_num, rfl, by omega, by rw [HST.out, hg0, List.append_nil]; exact HN', by rw [HST.out, hg0, List.append_nil]; exact HO5, HB5⟩
        case measure => simp [intOf]; omega
    · obtain rfl : k = n := by omega
      have HE := Lib.hid (show (l.take k).flatMap g = l.flatMap g from by rw [List.take_of_length_le (by have := HN.out; omega)])
      go_wp2_with fail
      go_ret
      exact ⟨A', n', c', rfl, by rw [← HE.out]; exact HN'.out, by rw [← HE.out]; exact HO.out, HB.out⟩
set_option maxHeartbeats 8000000 in
theorem ddrop_any (A : Option Addr) (n c : Nat) (l : List Ex) (b : Int) (B : Nat) (w : World) (g : Ex → List Ex) (hgd : ∀ x, g x = if x.bl ≠ b then [x] else []) (hn : n = l.length) (hr : Rd w B A (l.flatMap Ex.cells)) (hB : B ≤ w.heap.size) (hsm : n ≤ 100000) :
    Calls Try.prog 16 #[.slice A n c, .int .i64 b] w (RowX (l.flatMap g) w) := by
  have HR := Lib.hid hr
  have HN := Lib.hid hn
  have HGL := Lib.hid (fun x => (by rw [hgd x]; split <;> simp : (g x).length ≤ 1))
  clear hr hn
  go_enter Try.func16, Try.ntmps16
  go_wp2
  go_loopw [5, 6] (fun o i wr => ∃ (k n' c' : Nat) (A' : Option Addr), k ≤ n ∧ i = .int .i64 k ∧ o = .slice A' n' c' ∧ n' ≤ k ∧ Hid (n' = ((l.take k).flatMap g).length) ∧ Hid (wr.ownsRow w.heap.size 38 6 (.slice A' n' c') n' (((l.take k).flatMap g).flatMap Ex.cells)) ∧ Hid (Below w.heap.size w wr)) (fun _ i _ => n - (intOf i).toNat)
  case atStart => exact ⟨0, 0, 0, none, Nat.zero_le _, rfl, rfl, Nat.le_refl _, Lib.hid rfl, World.ownsRow_nil _ _ _ _, Lib.hid (Below.refl _ _)⟩
  case round =>
    obtain ⟨k, n', c', A', hk, rfl, rfl, hn'k, HN', HO, HB⟩ := hrel
    have hws := HB.out.size
    by_cases hlt : k < n
    · obtain ⟨x, hx⟩ : ∃ x, l[k]? = some x := ⟨l[k]'(by rw [← HN.out]; exact hlt), List.getElem?_eq_getElem _⟩
      obtain ⟨a, rfl, hab, hcc⟩ := ex_at (HR.out.keep (fun p hp => HB.out.cell (Nat.lt_of_lt_of_le hp hB))) hx
      have x0 : wr.cell? (a.add (k * 6)) = some (.string x.sv) := hcc 0 _ rfl
      have x1 : wr.cell? ⟨(a.add (k * 6)).block, (a.add (k * 6)).off + 1, none⟩ = some (.string x.op) := cell_far (hcc 1 _ rfl) (by decide)
      have x2 : wr.cell? ⟨(a.add (k * 6)).block, (a.add (k * 6)).off + 2, none⟩ = some (.int .u64 x.hi) := cell_far (hcc 2 _ rfl) (by decide)
      have x3 : wr.cell? ⟨(a.add (k * 6)).block, (a.add (k * 6)).off + 3, none⟩ = some (.int .u64 x.lo) := cell_far (hcc 3 _ rfl) (by decide)
      have x4 : wr.cell? ⟨(a.add (k * 6)).block, (a.add (k * 6)).off + 4, none⟩ = some (.int .u64 x.id) := cell_far (hcc 4 _ rfl) (by decide)
      have x5 : wr.cell? ⟨(a.add (k * 6)).block, (a.add (k * 6)).off + 5, none⟩ = some (.int .i64 x.bl) := cell_far (hcc 5 _ rfl) (by decide)
      have HST := Lib.hid (show (l.take (k + 1)).flatMap g = (l.take k).flatMap g ++ g x from by rw [List.take_add_one, hx, List.flatMap_append]; simp)
      have i1 : (k : Int) < (n : Int) := by omega
      have i0 : (0 : Int) ≤ (k : Int) := by omega
      clear hcc hx
      have HO5 := HO
      have HB5 := HB
      have hs5 := hws
      have hob5 := own_block_ge HO.out
      have hB5 := hws
      by_cases h1 : x.bl ≠ b
      · have e1 : (x.bl != b) = true := by simpa using h1
        have hg1 : g x = [x] := by simp [hgd, *]
        have APP := Lib.hid (fun ty => appX (ty := ty) HO5.out x (by omega) hs5)
        clear HO5
        go_wp2_with (at_builtin; refine wpList_app rfl (.tmp 20) (.tmp 25) _ _ rfl rfl rfl (APP.out _) ?_; rintro v8 w8 ⟨ho8, hg8⟩; obtain ⟨A8, c8, rfl, _, _⟩ := own_rd ho8; have HO8 := Lib.hid ho8; have HG8 := Lib.hid hg8; clear ho8 hg8)
        go_roundw
        case rel => exact ⟨k + 1, n' + 1, c8, A8, by omega, by go_num, rfl, by omega, by rw [HST.out, hg1, List.length_append, ← HN'.out]; rfl, by rw [HST.out, hg1, List.flatMap_append, List.flatMap_singleton]; exact HO8, Lib.hid ((HB5.out.grown HG8.out.grown hB5 (fun q hq => hob5 q hq)))⟩
        case measure => simp [intOf]; omega
      · have h1 : x.bl = b := (by omega); have e1 : (x.bl != b) = false := by simpa using h1
        have hg0 : g x = [] := by simp [hgd, *]
        go_wp2_with fail
        go_roundw
        case rel => exact ⟨k + 1, n', c', A', by omega, by go_num, rfl, by omega, by rw [HST.out, hg0, List.append_nil]; exact HN', by rw [HST.out, hg0, List.append_nil]; exact HO5, HB5⟩
        case measure => simp [intOf]; omega
    · obtain rfl : k = n := by omega
      have HE := Lib.hid (show (l.take k).flatMap g = l.flatMap g from by rw [List.take_of_length_le (by have := HN.out; omega)])
      go_wp2_with fail
      go_ret
      exact ⟨A', n', c', rfl, by rw [← HE.out]; exact HN'.out, by rw [← HE.out]; exact HO.out, HB.out⟩
end Go.Proofs.Ytajpnimjkkmcmaa
