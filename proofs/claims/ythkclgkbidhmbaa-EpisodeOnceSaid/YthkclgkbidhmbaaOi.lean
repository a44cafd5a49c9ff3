/- Chapter 15's first law, walked. -/
import Derived.Test.YthkclgkbidhmbaaOs
import Derived.Deep.DeepCutAuto
import Derived.Deep.QuietTactic
import Derived.BigQuiet
namespace Go.Proofs.Ythkclgkbidhmbaa
open Go.RowKit Go.Maps
set_option linter.unusedVariables false
set_option maxRecDepth 100000

theorem okNum (th tl y k : Int) (h : (0 ≤ th ∧ th ≤ 18446744073709551615) ∧ 0 ≤ tl ∧ tl ≤ 18446744073709551615) (hy : 0 ≤ y ∧ y ≤ 15) (hk : 0 ≤ k ∧ k ≤ 60) : (⟨th, tl, y, 0, ⟨#[]⟩, ⟨#[]⟩, k, 0, false, []⟩ : Sp).ok :=
  ⟨h.1, h.2, ⟨hy.1, by have := hy.2; simp; omega⟩, ⟨Int.le_refl _, by simp⟩, Nat.zero_le _, Nat.zero_le _, ⟨by have := hk.1; simp; omega, by have := hk.2; simp; omega⟩, ⟨by simp, by simp⟩, Nat.zero_le _, by simp⟩
theorem OSt.rd {w0 w : World} {E : Nat} {th tl f la : Int} {su : Bool} {v8 v10 : Value} {A : Option Addr} {n c : Nat} {le : List Le} {ls : List Ls} {want : List Int} (h : OSt w0 w E th tl f la su v8 v10 (.slice A n c) le ls want) : RdSps w w.heap.size A ls := by
  obtain ⟨A', c', hv, _, hr⟩ := h.sps.rd
  injection hv with h1 _ h3
  subst h1
  exact hr

/-- The other trace's episode, its span in block g. -/
def oth (th tw : Int) (g : Nat) : Le := ⟨th, tw, 0, 0, false, [⟨⟨0, 0, 99, 0, ⟨#[]⟩, ⟨#[]⟩, 0, 0, false, []⟩, none, 0⟩], some ⟨g, 0, none⟩, 1⟩
theorem ok99 : (⟨0, 0, 99, 0, ⟨#[]⟩, ⟨#[]⟩, 0, 0, false, []⟩ : Sp).ok := ok_zero 99 (by constructor <;> decide)
theorem two_eps {w0 w : World} {E : Nat} {th tl f la : Int} {su : Bool} {v8 v10 : Value} {A : Option Addr} {n c : Nat} {le : List Le} {ls : List Ls} {want : List Int} {ty : TypeId} (h : OSt w0 w E th tl f la su v8 v10 (.slice A n c) le ls want) (hn : n = ls.length) (hl : le.length ≤ 1000) (tw : Int) :
    ∃ v' w', (Builtin.append_ #[62, 62] ty #[v8, .slice (some ⟨w.heap.size + 1, 0, none⟩) 2 2]).run Try.prog ((w.alloc (.cells #[.int .u64 0, .int .u64 0, .int .u64 99, .int .u64 0, .string ⟨#[]⟩, .string ⟨#[]⟩, .int .i64 0, .int .i64 0, .bool false, .slice none 0 0] 36)).alloc (.cells #[.int .u64 th, .int .u64 tl, .int .i64 f, .int .i64 la, .bool su, .slice A n c, .int .u64 th, .int .u64 tw, .int .i64 0, .int .i64 0, .bool false, .slice (some ⟨w.heap.size, 0, none⟩) 1 1] 59)) = .ok v' w' ∧
      OSt w0 w' E th tl f la su v' v10 (.slice A n c) (le ++ [⟨th, tl, f, la, su, ls, A, c⟩, oth th tw w.heap.size]) ls want := by
  subst hn
  have hE := h.lt
  have hbA : Below w.heap.size w (w.alloc (.cells #[.int .u64 0, .int .u64 0, .int .u64 99, .int .u64 0, .string ⟨#[]⟩, .string ⟨#[]⟩, .int .i64 0, .int .i64 0, .bool false, .slice none 0 0] 36)) := (Below.refl _ _).alloc (Nat.le_refl _) _
  have ho : OwnSps (w.alloc (.cells #[.int .u64 0, .int .u64 0, .int .u64 99, .int .u64 0, .string ⟨#[]⟩, .string ⟨#[]⟩, .int .i64 0, .int .i64 0, .bool false, .slice none 0 0] 36)) (E + 1) (.slice (some ⟨w.heap.size, 0, none⟩) 1 1) [⟨⟨0, 0, 99, 0, ⟨#[]⟩, ⟨#[]⟩, 0, 0, false, []⟩, none, 0⟩] :=
    ⟨World.ownsRow_lit (base := E + 1) (size := 10) w _ 1 (by omega) (by simp [maxLen]) rfl, fun x hx => by rw [List.mem_singleton] at hx; subst hx; exact ⟨World.ownsRow_nil _ _ _ _, ok99⟩⟩
  generalize hw1 : w.alloc (.cells #[.int .u64 0, .int .u64 0, .int .u64 99, .int .u64 0, .string ⟨#[]⟩, .string ⟨#[]⟩, .int .i64 0, .int .i64 0, .bool false, .slice none 0 0] 36) = w1 at *
  have hz : w1.heap.size = w.heap.size + 1 := by rw [← hw1]; simp
  have h1 := h.keep hbA
  rw [← hz]
  have hbB : Below w1.heap.size w1 (w1.alloc (.cells #[.int .u64 th, .int .u64 tl, .int .i64 f, .int .i64 la, .bool su, .slice A ls.length c, .int .u64 th, .int .u64 tw, .int .i64 0, .int .i64 0, .bool false, .slice (some ⟨w.heap.size, 0, none⟩) 1 1] 59)) := (Below.refl _ _).alloc (Nat.le_refl _) _
  have hr := Rd.lit w1 #[.int .u64 th, .int .u64 tl, .int .i64 f, .int .i64 la, .bool su, .slice A ls.length c, .int .u64 th, .int .u64 tw, .int .i64 0, .int .i64 0, .bool false, .slice (some ⟨w.heap.size, 0, none⟩) 1 1] 59
  have h2 := h1.keep hbB
  have ho2 := ho.below hbB
  have hz2 : w1.heap.size < (w1.alloc (.cells #[.int .u64 th, .int .u64 tl, .int .i64 f, .int .i64 la, .bool su, .slice A ls.length c, .int .u64 th, .int .u64 tw, .int .i64 0, .int .i64 0, .bool false, .slice (some ⟨w.heap.size, 0, none⟩) 1 1] 59)).heap.size := by simp
  generalize w1.alloc (.cells #[.int .u64 th, .int .u64 tl, .int .i64 f, .int .i64 la, .bool su, .slice A ls.length c, .int .u64 th, .int .u64 tw, .int .i64 0, .int .i64 0, .bool false, .slice (some ⟨w.heap.size, 0, none⟩) 1 1] 59) = w2 at *
  obtain ⟨v', w', r1, r2, r3⟩ := appEp (ty := ty) (xs := [⟨th, tl, f, la, su, ls, A, c⟩, oth th tw w.heap.size]) 2 2 rfl h2.eps (fun e he => by
    rcases List.mem_cons.1 he with rfl | he
    · exact h2.sps
    · rw [List.mem_singleton] at he; subst he; exact ho2) hr (by omega) (by omega) (by omega)
  exact ⟨v', w', r1, h2.more r3 r2⟩

/-- What the last expression's operations leave. -/
def ZS (E : Nat) (v10 eV : Value) (ls : List Ls) (want : List Int) (w : World) : Prop := OwnSps w (E + 1) eV ls ∧ w.ownsRow (E + 1) 23 1 v10 want.length (want.map (Value.int .u64))
def ZR (E : Nat) (v10 eV : Value) (ls : List Ls) (want : List Int) (a b : World) : Prop := Below (E + 1) a b ∧ (ZS E v10 eV ls want a → ZS E v10 eV ls want b)
def ZF (E : Nat) (th tl : Int) (v8 : Value) (le : List Le) (e : Le) : Nat → Value → World → Prop
  | 0, v, _ => v = v8
  | 1, v, _ => v = .agg e.cells.toArray
  | 2, v, w => ∃ g, v = .slice (some ⟨g, 0, none⟩) 1 1 ∧ Rd w (g + 1) (some ⟨g, 0, none⟩) e.cells ∧ g < w.heap.size ∧ v8.ownBlock ≠ some g
  | 3, v, w => ∃ A2 c2, v = .slice A2 (le.length + 1) c2 ∧ OwnEps w (E + 1) v (le ++ [e])
  | 4, v, _ => v = .agg #[.int .u64 th, .int .u64 tl]
  | 5, v, w => ∃ A5 c5 l5, v = .slice A5 l5.length c5 ∧ OwnSps w (E + 1) v l5 ∧ l5.map Ls.s = (spAll th tl (le ++ [e])).1
  | 6, v, w => ∃ A5 c5 l5, v = .slice A5 l5.length c5 ∧ OwnSps w (E + 1) v l5 ∧ l5.map Ls.s = (spAll th tl (le ++ [e])).1
  | _, _, _ => True
def ZG (E : Nat) (v8 : Value) (le : List Le) : Nat → World → Prop
  | 3, w => OwnEps w (E + 1) v8 le
  | _, _ => True
section
variable {E : Nat} {th tl : Int} {v8 v10 eV : Value} {le : List Le} {e : Le} {ls : List Ls} {want : List Int} {w w' : World}
theorem ZR.goes : PG.Goes (ZR E v10 eV ls want) := ⟨fun w => ⟨Below.refl _ w, fun h => h⟩, fun _ _ _ h k => ⟨h.1.trans k.1, fun x => k.2 (h.2 x)⟩⟩
theorem ZR.below (hz : E < w.heap.size) (hb : Below w.heap.size w w') : ZR E v10 eV ls want w w' := ⟨hb.mono hz, fun h => ⟨h.1.below hb, own_below h.2 hb⟩⟩
theorem ZF.below {i : Nat} {v : Value} (h : ZF E th tl v8 le e i v w) (hb : Below w.heap.size w w') : ZF E th tl v8 le e i v w' := by
  match i, h with
  | 0, h => exact h
  | 1, h => exact h
  | 2, h => obtain ⟨g, h1, h2, h3, h4⟩ := h; exact ⟨g, h1, h2.block (hb.block g h3), Nat.lt_of_lt_of_le h3 hb.size, h4⟩
  | 3, h => obtain ⟨A2, c2, h1, h2⟩ := h; exact ⟨A2, c2, h1, h2.below hb⟩
  | 4, h => exact h
  | 5, h => obtain ⟨A5, c5, l5, h1, h2, h3⟩ := h; exact ⟨A5, c5, l5, h1, h2.below hb, h3⟩
  | 6, h => obtain ⟨A5, c5, l5, h1, h2, h3⟩ := h; exact ⟨A5, c5, l5, h1, h2.below hb, h3⟩
  | _ + 7, h => trivial
theorem ZG.below {i : Nat} (h : ZG E v8 le i w) (hb : Below w.heap.size w w') : ZG E v8 le i w' := by
  unfold ZG at *
  split
  · exact OwnEps.below h hb
  · trivial
theorem zpost {ops : Array Oper} {i : Nat} {v : Value} (hz : E < w.heap.size) (hb : Below w.heap.size w w') (h : ZF E th tl v8 le e i v w') : PG.Post ops (ZR E v10 eV ls want) (ZG E v8 le) (ZF E th tl v8 le e) i w v w' := ⟨ZR.below hz hb, h, fun _ _ h => h.below hb, fun _ _ _ _ h => h.below hb⟩
end

set_option maxHeartbeats 8000000 in
theorem once_in (A : Option Addr) (l : List Int) (n c B : Nat) (per th tl : Int) (w : World) (hn : n = l.length) (hy : Rd w B A (l.map (Value.int .i64))) (hB : B ≤ w.heap.size) (hl : n ≤ 60) (hp1 : 1 ≤ per) (hp2 : per ≤ 20)
    (hw : ∀ x ∈ l, -9223372036854775808 ≤ x ∧ x ≤ 9223372036854775807) (hth : 0 ≤ th ∧ th ≤ 18446744073709551615) (htl : 0 ≤ tl ∧ tl ≤ 18446744073709551615) :
    Calls Try.prog 9 #[.slice A n c, .int .i64 per, .agg #[.int .u64 th, .int .u64 tl]] w fun e w' => e = .returned (.bool true) ∧ Below w.heap.size w w' := by
  have AL := fun W => Lib.hid (alive15_calls W)
  have HN := Lib.hid hn
  have HY := Lib.hid hy
  have HW := Lib.hid hw
  have HT := Lib.hid (And.intro hth htl)
  have hl' : (n : Int) ≤ 60 := by omega
  clear hn hy hw hth htl
  go_enter Try.func9, Try.ntmps9
  go_wp2_with (go_at_call 39; (with_reducible refine (AL _).out.mono ?_); rintro e w1 ⟨rfl, hb1⟩; have hT1 := (hb1.block w.heap.size (by simp)).trans (heap_alloc_new w _); have t0 : w1.cell? ⟨w.heap.size, 0, none⟩ = some (.int .u64 th) := cell_of_row _ _ 0 _ _ (0, 0) hT1; have t1 : w1.cell? ⟨w.heap.size, 1, none⟩ = some (.int .u64 tl) := cell_of_row _ _ 1 _ _ (0, 0) hT1; have hs1 : w.heap.size + 1 ≤ w1.heap.size := (by simpa using hb1.size); have HT1 := Lib.hid hT1; have HB1 := Lib.hid (((Below.refl _ _).alloc (Nat.le_refl _) _).trans (hb1.mono (by simp))); clear hb1 hT1)
  have hE1 : w.heap.size < w1.heap.size := by omega
  have HS0 : Hid (OSt w (w1.alloc (.cells #[.int .u64 th, .int .u64 tl, .int .i64 0, .int .i64 0, .bool false, .slice none 0 0] 59)) w1.heap.size th tl 0 0 false (.slice none 0 0) (.slice none 0 0) (.slice none 0 0) [] [] []) := Lib.hid ⟨hE1, by simp, (heap_alloc_old w1 _ hE1).trans HT1.out, heap_alloc_new w1 _, OwnEps.nil, OwnSps.nil, World.ownsRow_nil _ _ _ _, HB1.out.alloc HB1.out.size _⟩
  obtain ⟨g, hg⟩ : ∃ g : Nat → Int, g = fun j => (l.getD j 0) % 16 := ⟨_, rfl⟩
  have HG := Lib.hid hg
  clear hg
  go_loopw [8, 10, 11] (fun v8 v10 i wr => ∃ (k : Nat) (le : List Le) (ls : List Ls) (f la : Int) (su : Bool) (eA : Option Addr) (en ec : Nat) (want : List Int), i = .int .i64 k ∧ k ≤ n ∧ Hid (en = ls.length) ∧ en ≤ k ∧ le.length ≤ 2 * k ∧ want.length ≤ k ∧ Hid (OSt w wr w1.heap.size th tl f la su v8 v10 (.slice eA en ec) le ls want) ∧ Hid (Once g k ((ls.map Ls.s).foldl spn (spAll th tl le)) want) ∧ Hid (Bare (ls.map Ls.s)) ∧ Hid (∀ e ∈ le, e.l.length ≤ 100 ∧ Bare (e.l.map Ls.s))) (fun _ _ i _ => n - (intOf i).toNat)
  case atStart => exact ⟨0, [], [], 0, 0, false, none, 0, 0, [], rfl, Nat.zero_le _, Lib.hid rfl, Nat.le_refl _, Nat.zero_le _, Nat.zero_le _, HS0, Lib.hid (Once.start g), Lib.hid Bare.nil, Lib.hid (fun _ h => by cases h)⟩
  case round =>
    clear HS0 t0 t1
    obtain ⟨k, le, ls, f, la, su, eA, en, ec, want, rfl, hk, HEN, henk, hlk, hwk, HOS, HON, HBR, HLE⟩ := hrel
    have hEr : w1.heap.size < wr.heap.size := HOS.out.lt
    by_cases hlt : k < n
    · obtain ⟨x, hx⟩ : ∃ x, l[k]? = some x := ⟨_, List.getElem?_eq_getElem (by rw [← HN.out]; exact hlt)⟩
      have HR : Hid (Rd wr B A (l.map (Value.int .i64))) := Lib.hid (HY.out.keep (fun p hp => HOS.out.below.cell (by omega)))
      obtain ⟨a, ha, hab, hc⟩ := HR.out (by rw [List.length_map, ← HN.out]; omega)
      subst ha
      have hxw := HW.out x (List.mem_of_getElem? hx)
      have c0 : wr.cell? (a.add k) = some (.int .i64 x) := hc k _ (by rw [List.getElem?_map, hx]; rfl)
      have hab2 : (a.add k).block < wr.heap.size := by rw [block_add]; omega
      obtain ⟨y, hxy⟩ : ∃ y, y = x % 16 := ⟨_, rfl⟩
      have hy0 : 0 ≤ y := by omega
      have hy1 : y ≤ 15 := by omega
      have e15 : bits .and .i64 x 15 = y := by rw [i64_and15, hxy]
      have HGK : Hid (g k = y) := Lib.hid (by rw [HG.out]; simp only [List.getD_eq_getElem?_getD, hx, Option.getD_some]; exact hxy.symm)
      clear hc hx hxy
      have t0 : wr.cell? ⟨w.heap.size, 0, none⟩ = some (.int .u64 th) := cell_of_row _ _ 0 _ _ (0, 0) HOS.out.t
      have t1 : wr.cell? ⟨w.heap.size, 1, none⟩ = some (.int .u64 tl) := cell_of_row _ _ 1 _ _ (0, 0) HOS.out.t
      have p0 : wr.cell? ⟨w1.heap.size, 0, none⟩ = some (.int .u64 th) := cell_of_row _ _ 0 _ _ (0, 0) HOS.out.e
      have p1 : wr.cell? ⟨w1.heap.size, 1, none⟩ = some (.int .u64 tl) := cell_of_row _ _ 1 _ _ (0, 0) HOS.out.e
      have p2 : wr.cell? ⟨w1.heap.size, 2, none⟩ = some (.int .i64 f) := cell_of_row _ _ 2 _ _ (0, 0) HOS.out.e
      have p3 : wr.cell? ⟨w1.heap.size, 3, none⟩ = some (.int .i64 la) := cell_of_row _ _ 3 _ _ (0, 0) HOS.out.e
      have p4 : wr.cell? ⟨w1.heap.size, 4, none⟩ = some (.bool su) := cell_of_row _ _ 4 _ _ (0, 0) HOS.out.e
      have p5 : wr.cell? ⟨w1.heap.size, 5, none⟩ = some (.slice eA en ec) := cell_of_row _ _ 5 _ _ (0, 0) HOS.out.e
      have CADD := Lib.hid (add_same th tl f la su eA ls en ec y 0 ⟨#[]⟩ ⟨#[]⟩ (k : Int) 0 false none 0 0 [] (k : Int) wr.heap.size wr HEN.out HOS.out.rd rfl ⟨Rd.nil, ⟨Nat.le_refl _, Nat.zero_le _⟩, okNum th tl y k HT.out ⟨hy0, hy1⟩ ⟨by omega, by omega⟩⟩ (Nat.le_refl _) (by omega) HBR.out.len (by omega))
      go_upto_region 11 with fail
      go_cut [12] (fun v12 wx => ∃ (f2 la2 : Int) (su2 : Bool) (A2 : Option Addr) (n2 c2 : Nat) (l2 : List Ls), v12 = .int .u64 y ∧ Hid (n2 = l2.length) ∧ n2 ≤ k + 1 ∧ Hid (OSt w wx w1.heap.size th tl f2 la2 su2 u8 u10 (.slice A2 n2 c2) le l2 want) ∧ Hid (Once g (k + 1) ((l2.map Ls.s).foldl spn (spAll th tl le)) (if y ∈ want then want else want ++ [y])) ∧ Hid (Bare (l2.map Ls.s)))
      case first =>
        go_wp2_with (go_at_call 40; (with_reducible refine CADD.out.mono ?_); rintro e w2 ⟨A2, n2, c2, l2, rfl, hn2, ho2, hm2, hb2⟩; have HO2 := Lib.hid (HOS.out.keep hb2); have hE2 := HO2.out.e; have r0 : w2.cell? ⟨w1.heap.size, 0, none⟩ = some (.int .u64 th) := cell_of_row _ _ 0 _ _ (0, 0) HO2.out.e; have r1 : w2.cell? ⟨w1.heap.size, 1, none⟩ = some (.int .u64 tl) := cell_of_row _ _ 1 _ _ (0, 0) HO2.out.e; have r2 : w2.cell? ⟨w1.heap.size, 2, none⟩ = some (.int .i64 f) := cell_of_row _ _ 2 _ _ (0, 0) HO2.out.e; have r3 : w2.cell? ⟨w1.heap.size, 3, none⟩ = some (.int .i64 la) := cell_of_row _ _ 3 _ _ (0, 0) HO2.out.e; have r4 : w2.cell? ⟨w1.heap.size, 4, none⟩ = some (.bool su) := cell_of_row _ _ 4 _ _ (0, 0) HO2.out.e; have r5 : w2.cell? ⟨w1.heap.size, 5, none⟩ = some (.slice eA en ec) := cell_of_row _ _ 5 _ _ (0, 0) HO2.out.e; have s0 : w2.cell? ⟨w.heap.size, 0, none⟩ = some (.int .u64 th) := cell_of_row _ _ 0 _ _ (0, 0) HO2.out.t; have s1 : w2.cell? ⟨w.heap.size, 1, none⟩ = some (.int .u64 tl) := cell_of_row _ _ 1 _ _ (0, 0) HO2.out.t; have z0 : w2.frozen? ⟨w1.heap.size, 0, none⟩ = false := (by simp [World.frozen?, hE2]); have z1 : w2.frozen? ⟨w1.heap.size, 1, none⟩ = false := (by simp [World.frozen?, hE2]); have z2 : w2.frozen? ⟨w1.heap.size, 2, none⟩ = false := (by simp [World.frozen?, hE2]); have z3 : w2.frozen? ⟨w1.heap.size, 3, none⟩ = false := (by simp [World.frozen?, hE2]); have z4 : w2.frozen? ⟨w1.heap.size, 4, none⟩ = false := (by simp [World.frozen?, hE2]); have z5 : w2.frozen? ⟨w1.heap.size, 5, none⟩ = false := (by simp [World.frozen?, hE2]); have hsz2 : wr.heap.size ≤ w2.heap.size := hb2.size; have HN2 := Lib.hid hn2; have HW2 := Lib.hid ho2; have HM2 := Lib.hid hm2; have HB2 := Lib.hid hb2; clear hn2 ho2 hm2 hb2 hE2)
        go_meet
        have HN3 : Hid (n2 = l2.length) := Lib.hid (by rw [HN2.out, ← HM2.out, List.length_map])
        have hn3 : n2 ≤ k + 1 := by
          rw [HN2.out]
          refine Nat.le_trans (len_more _ _ _) ?_
          rw [List.length_map, ← HEN.out]; omega
        have HO3 := Lib.hid (HO2.out.put (HW2.out.mono (by omega)) f (k : Int) su)
        have HON3 : Hid (Once g (k + 1) ((l2.map Ls.s).foldl spn (spAll th tl le)) (if y ∈ want then want else want ++ [y])) := Lib.hid (by
          have := HON.out.step ⟨th, tl, y, 0, ⟨#[]⟩, ⟨#[]⟩, (k : Int), 0, false, []⟩ HGK.out.symm rfl
          rw [HGK.out] at this
          rw [HM2.out]; exact this)
        have HBR3 : Hid (Bare (l2.map Ls.s)) := Lib.hid (by rw [HM2.out]; exact HBR.out.more _ rfl)
        exact ⟨f, k, su, A2, n2, c2, l2, rfl, HN3, hn3, HO3, HON3, HBR3⟩
      case rest =>
        obtain ⟨f2, la2, su2, A2, n2, c2, l2, rfl, HN2, hn2, HO2, HON2, HBR2⟩ := hcut
        clear CADD HOS HON HBR HR HEN t0 t1 p0 p1 p2 p3 p4 p5 c0 hab hab2 e15 hEr
        obtain ⟨wA, wC, rfl, hwC, hwr⟩ := own_rd HO2.out.row
        go_wp2_with fail
        generalize wc = w3 at *
        go_loop [13, 14] (fun v13 v14 => ∃ j : Nat, j ≤ want.length ∧ v14 = .int .i64 j ∧ v13 = .bool (decide (y ∈ want.take j))) (fun _ i => want.length - (intOf i).toNat)
        case atStart => exact ⟨0, Nat.zero_le _, rfl, rfl⟩
        case round =>
          obtain ⟨j, hj, rfl, rfl⟩ := hrel
          by_cases hjl : j < want.length
          · obtain ⟨z, hz⟩ : ∃ z, want[j]? = some z := ⟨_, List.getElem?_eq_getElem hjl⟩
            have hst : decide (y ∈ want.take (j + 1)) = (decide (y ∈ want.take j) || (z == y)) := by
              rw [List.take_add_one, hz, Bool.eq_iff_iff]
              simp only [decide_eq_true_eq, List.mem_append, Option.toList_some, List.mem_singleton, Bool.or_eq_true, beq_iff_eq]
              constructor
              · rintro (h | h)
                · exact .inl h
                · exact .inr h.symm
              · rintro (h | h)
                · exact .inl h
                · exact .inr h.symm
            obtain ⟨a3, ha3, hab3, hc3⟩ := hwr (by rw [List.length_map]; omega)
            subst ha3
            have c3 : w3.cell? (a3.add j) = some (.int .u64 z) := hc3 j _ (by rw [List.getElem?_map, hz]; rfl)
            clear hc3 hz
            generalize decide (y ∈ want.take j) = b at *
            have HST := Lib.hid hst
            clear hst
            cases b
            · cases hzy : (z == y)
              all_goals
                go_wp2_with fail
                go_round
                case rel => exact ⟨j + 1, by omega, by go_num, by rw [HST.out, hzy]; rfl⟩
                case measure => simp [intOf]; omega
            · go_wp2_with fail
              go_round
              case rel => exact ⟨j + 1, by omega, by go_num, by rw [HST.out]; rfl⟩
              case measure => simp [intOf]; omega
          · obtain rfl : j = want.length := by omega
            rw [List.take_length]
            clear hj hjl
            go_upto_if 74 with fail
            go_cut [10, 13] (fun v10 v13 wx => ∃ want2 : List Int, Hid (want2 = if y ∈ want then want else want ++ [y]) ∧ want2.length ≤ k + 1 ∧ Hid (OSt w wx w1.heap.size th tl f2 la2 su2 u8 v10 (.slice A2 n2 c2) le l2 want2))
            case first =>
              by_cases hin : y ∈ want
              · rw [decide_eq_true hin]
                have HW3 : Hid (want = if y ∈ want then want else want ++ [y]) := Lib.hid (by rw [if_pos hin])
                clear hin
                go_wp2_with fail
                go_meet
                exact ⟨want, HW3, by omega, HO2⟩
              · rw [decide_eq_false hin]
                have HW3 : Hid (want ++ [y] = if y ∈ want then want else want ++ [y]) := Lib.hid (by rw [if_neg hin])
                have HO3 := Lib.hid (HO2.out.keep ((Below.refl _ _).alloc (Nat.le_refl _) (.cells #[.int .u64 y] 23)))
                have hE3 := HO2.out.lt
                clear hin
                go_wp2_with (at_builtin; refine wpList_app rfl (.tmp 75) (.tmp 77) _ _ rfl rfl rfl (appU (y := y) HO3.out.row (B := w3.heap.size + 1) (Rd.one w3 _ _) (by omega) (by simp; omega)) ?_; rintro v4 w4 ⟨ho4, hg4⟩; have HW4 := Lib.hid ho4; have HG4 := Lib.hid hg4; clear ho4 hg4)
                go_meet
                exact ⟨want ++ [y], HW3, by simp; omega, Lib.hid (HO3.out.num HG4.out HW4.out)⟩
            case rest =>
              obtain ⟨want2, HW2, hw2, HO5⟩ := hcut
              clear HO2 hwr
              generalize wc = w5 at *
              have HON5 : Hid (Once g (k + 1) ((l2.map Ls.s).foldl spn (spAll th tl le)) want2) := Lib.hid (by rw [HW2.out]; exact HON2.out)
              clear HON2 HW2
              have hE5 : w1.heap.size < w5.heap.size := HO5.out.lt
              have hk60 : (k : Int) + 1 ≤ 60 := by omega
              cases hm : (((k : Int) + 1) % per == 0)
              · go_wp2_with fail
                go_roundw
                case rel => exact ⟨k + 1, le, l2, f2, la2, su2, A2, n2, c2, want2, by go_num, by omega, HN2, hn2, by omega, hw2, HO5, HON5, HBR2, HLE⟩
                case measure => simp [intOf]; omega
              · have htw : IntKind.u64.wrap (tl + 1) ≠ tl := by
                  have := HT.out.2
                  simp only [IntKind.wrap, IntKind.bits, IntKind.signed]
                  simp
                  omega
                have HTW := Lib.hid htw
                clear htw
                have t0 : w5.cell? ⟨w.heap.size, 0, none⟩ = some (.int .u64 th) := cell_of_row _ _ 0 _ _ (0, 0) HO5.out.t
                have t1 : w5.cell? ⟨w.heap.size, 1, none⟩ = some (.int .u64 tl) := cell_of_row _ _ 1 _ _ (0, 0) HO5.out.t
                have p0 : w5.cell? ⟨w1.heap.size, 0, none⟩ = some (.int .u64 th) := cell_of_row _ _ 0 _ _ (0, 0) HO5.out.e
                have p1 : w5.cell? ⟨w1.heap.size, 1, none⟩ = some (.int .u64 tl) := cell_of_row _ _ 1 _ _ (0, 0) HO5.out.e
                have p2 : w5.cell? ⟨w1.heap.size, 2, none⟩ = some (.int .i64 f2) := cell_of_row _ _ 2 _ _ (0, 0) HO5.out.e
                have p3 : w5.cell? ⟨w1.heap.size, 3, none⟩ = some (.int .i64 la2) := cell_of_row _ _ 3 _ _ (0, 0) HO5.out.e
                have p4 : w5.cell? ⟨w1.heap.size, 4, none⟩ = some (.bool su2) := cell_of_row _ _ 4 _ _ (0, 0) HO5.out.e
                have p5 : w5.cell? ⟨w1.heap.size, 5, none⟩ = some (.slice A2 n2 c2) := cell_of_row _ _ 5 _ _ (0, 0) HO5.out.e
                go_wp2_with (at_builtin; refine wpList_app rfl (.tmp 84) (.tmp 95) _ _ rfl rfl rfl (two_eps HO5.out HN2.out (by omega) _) ?_; rintro v6 w6 ho6; have HO6 := Lib.hid ho6; have hE6 := ho6.e; clear ho6; have r0 : w6.cell? ⟨w1.heap.size, 0, none⟩ = some (.int .u64 th) := cell_of_row _ _ 0 _ _ (0, 0) HO6.out.e; have r1 : w6.cell? ⟨w1.heap.size, 1, none⟩ = some (.int .u64 tl) := cell_of_row _ _ 1 _ _ (0, 0) HO6.out.e; have r2 : w6.cell? ⟨w1.heap.size, 2, none⟩ = some (.int .i64 f2) := cell_of_row _ _ 2 _ _ (0, 0) HO6.out.e; have r3 : w6.cell? ⟨w1.heap.size, 3, none⟩ = some (.int .i64 la2) := cell_of_row _ _ 3 _ _ (0, 0) HO6.out.e; have r4 : w6.cell? ⟨w1.heap.size, 4, none⟩ = some (.bool su2) := cell_of_row _ _ 4 _ _ (0, 0) HO6.out.e; have r5 : w6.cell? ⟨w1.heap.size, 5, none⟩ = some (.slice A2 n2 c2) := cell_of_row _ _ 5 _ _ (0, 0) HO6.out.e; have s0 : w6.cell? ⟨w.heap.size, 0, none⟩ = some (.int .u64 th) := cell_of_row _ _ 0 _ _ (0, 0) HO6.out.t; have s1 : w6.cell? ⟨w.heap.size, 1, none⟩ = some (.int .u64 tl) := cell_of_row _ _ 1 _ _ (0, 0) HO6.out.t; have z0 : w6.frozen? ⟨w1.heap.size, 0, none⟩ = false := (by simp [World.frozen?, hE6]); have z1 : w6.frozen? ⟨w1.heap.size, 1, none⟩ = false := (by simp [World.frozen?, hE6]); have z2 : w6.frozen? ⟨w1.heap.size, 2, none⟩ = false := (by simp [World.frozen?, hE6]); have z3 : w6.frozen? ⟨w1.heap.size, 3, none⟩ = false := (by simp [World.frozen?, hE6]); have z4 : w6.frozen? ⟨w1.heap.size, 4, none⟩ = false := (by simp [World.frozen?, hE6]); have z5 : w6.frozen? ⟨w1.heap.size, 5, none⟩ = false := (by simp [World.frozen?, hE6]); clear hE6)
                go_roundw
                case rel =>
                  refine ⟨k + 1, le ++ [⟨th, tl, f2, la2, su2, l2, A2, c2⟩, oth th (IntKind.u64.wrap (tl + 1)) w5.heap.size], [], 0, 0, false, none, 0, 0, want2, by go_num, by omega, Lib.hid rfl, Nat.zero_le _, by simp; omega, hw2, Lib.hid (HO6.out.put OwnSps.nil 0 0 false), Lib.hid ?_, Lib.hid Bare.nil, Lib.hid ?_⟩
                  · rw [spAll_two th tl le ⟨th, tl, f2, la2, su2, l2, A2, c2⟩ _ rfl rfl HTW.out]
                    exact HON5.out
                  · intro e he
                    rcases List.mem_append.1 he with he | he
                    · exact HLE.out e he
                    · rcases List.mem_cons.1 he with rfl | he
                      · exact ⟨by have := HN2.out; simp only; omega, HBR2.out⟩
                      · rw [List.mem_singleton] at he
                        subst he
                        exact ⟨by simp [oth], fun s hs => by simp [oth] at hs; subst hs; rfl⟩
                case measure => simp [intOf]; omega
    · obtain rfl : k = n := by omega
      have t0 : wr.cell? ⟨w.heap.size, 0, none⟩ = some (.int .u64 th) := cell_of_row _ _ 0 _ _ (0, 0) HOS.out.t
      have t1 : wr.cell? ⟨w.heap.size, 1, none⟩ = some (.int .u64 tl) := cell_of_row _ _ 1 _ _ (0, 0) HOS.out.t
      have p0 : wr.cell? ⟨w1.heap.size, 0, none⟩ = some (.int .u64 th) := cell_of_row _ _ 0 _ _ (0, 0) HOS.out.e
      have p1 : wr.cell? ⟨w1.heap.size, 1, none⟩ = some (.int .u64 tl) := cell_of_row _ _ 1 _ _ (0, 0) HOS.out.e
      have p2 : wr.cell? ⟨w1.heap.size, 2, none⟩ = some (.int .i64 f) := cell_of_row _ _ 2 _ _ (0, 0) HOS.out.e
      have p3 : wr.cell? ⟨w1.heap.size, 3, none⟩ = some (.int .i64 la) := cell_of_row _ _ 3 _ _ (0, 0) HOS.out.e
      have p4 : wr.cell? ⟨w1.heap.size, 4, none⟩ = some (.bool su) := cell_of_row _ _ 4 _ _ (0, 0) HOS.out.e
      have p5 : wr.cell? ⟨w1.heap.size, 5, none⟩ = some (.slice eA en ec) := cell_of_row _ _ 5 _ _ (0, 0) HOS.out.e
      obtain ⟨e, he⟩ : ∃ e : Le, e = ⟨th, tl, f, la, su, ls, eA, ec⟩ := ⟨_, rfl⟩
      have hec : e.cells = [.int .u64 th, .int .u64 tl, .int .i64 f, .int .i64 la, .bool su, .slice eA en ec] := by rw [he, HEN.out]; rfl
      have HEC := Lib.hid hec
      have HEE := Lib.hid he
      have HON9 : Hid (Once g k (spAll th tl (le ++ [e])) want) := Lib.hid (by rw [spAll_one th tl le e (by rw [he]) (by rw [he]), he]; exact HON.out)
      have HLE9 : Hid (∀ x ∈ le ++ [e], x.l.length ≤ 1000 ∧ ∀ y ∈ x.l, y.s.ats.length ≤ 100000) := Lib.hid (by
        intro x hx
        rcases List.mem_append.1 hx with hx | hx
        · exact ⟨Nat.le_trans (HLE.out x hx).1 (by omega), (HLE.out x hx).2.len⟩
        · rw [List.mem_singleton] at hx; subst hx; rw [he]; exact ⟨by have := HEN.out; simp only; omega, HBR.out.len⟩)
      clear hec he
      have HEN2 : Hid (OwnE wr (w1.heap.size + 1) e) := Lib.hid (by rw [HEE.out]; unfold OwnE; simp only; rw [← HEN.out]; exact HOS.out.sps)
      clear HON HLE HBR
      go_wp2_with fail
      refine PG.wp_region_persG (R := ZR w1.heap.size u10 (.slice eA en ec) ls want) (G := ZG w1.heap.size u8 le) (by kernel_rfl) (PG.formed_of (by kernel_rfl)) ZR.goes ?_ (ZF w1.heap.size th tl u8 le e) ?_ ?_
      · intro i
        unfold ZG
        split
        · exact HOS.out.eps.below (w' := wr.drew) ⟨rfl, rfl, rfl, Nat.le_refl _, fun _ _ => rfl⟩
        · trivial
      · intro i o ho
        have HR0 : Hid (Below wr.heap.size wr wr.drew) := Lib.hid ⟨rfl, rfl, rfl, Nat.le_refl _, fun _ _ => rfl⟩
        have HZ0 : Hid (ZS w1.heap.size u10 (.slice eA en ec) ls want wr.drew) := Lib.hid ⟨HOS.out.sps.below HR0.out, own_below HOS.out.row HR0.out⟩
        have HTE : Hid (wr.drew.heap[w1.heap.size]? = some (.cells #[.int .u64 th, .int .u64 tl, .int .i64 f, .int .i64 la, .bool su, .slice eA en ec] 59)) := Lib.hid HOS.out.e
        have HTT : Hid (wr.drew.heap[w.heap.size]? = some (.cells #[.int .u64 th, .int .u64 tl] 33)) := Lib.hid HOS.out.t
        have HZE : wr.drew.heap.size = wr.heap.size := rfl
        rcases i with _ | _ | _ | _ | _ | _ | _ | i
        · obtain rfl := Option.some.inj (show some _ = some o from ho)
          exact PG.shown_move (.tmp 8) rfl (.inl rfl) ZR.goes fun a w3 hr T => T.was 8 (by kernel_rfl)
        · obtain rfl := Option.some.inj (show some _ = some o from ho)
          refine PG.shown_val rfl fun a w3 hr T => ?_
          have h9 : a.eval (.tmp 9) = .pointer (some ⟨w1.heap.size, 0, none⟩) := T.was 9 (by kernel_rfl)
          have hO : w3.heap[w1.heap.size]? = some (.cells #[.int .u64 th, .int .u64 tl, .int .i64 f, .int .i64 la, .bool su, .slice eA en ec] 59) := (hr.1.block _ (Nat.lt_succ_self _)).trans HTE.out
          have v0 : w3.cell? ⟨w1.heap.size, 0, none⟩ = some (.int .u64 th) := cell_of_row _ _ 0 _ _ (0, 0) hO
          have v1 : w3.cell? ⟨w1.heap.size, 1, none⟩ = some (.int .u64 tl) := cell_of_row _ _ 1 _ _ (0, 0) hO
          have v2 : w3.cell? ⟨w1.heap.size, 2, none⟩ = some (.int .i64 f) := cell_of_row _ _ 2 _ _ (0, 0) hO
          have v3 : w3.cell? ⟨w1.heap.size, 3, none⟩ = some (.int .i64 la) := cell_of_row _ _ 3 _ _ (0, 0) hO
          have v4 : w3.cell? ⟨w1.heap.size, 4, none⟩ = some (.bool su) := cell_of_row _ _ 4 _ _ (0, 0) hO
          have v5 : w3.cell? ⟨w1.heap.size, 5, none⟩ = some (.slice eA en ec) := cell_of_row _ _ 5 _ _ (0, 0) hO
          exact ⟨.agg #[.int .u64 th, .int .u64 tl, .int .i64 f, .int .i64 la, .bool su, .slice eA en ec], w3, by simp only [execOp, h9]; simp [go_sem, v0, v1, v2, v3, v4, v5], PG.Post.pure ZR.goes (by show _ = Value.agg e.cells.toArray; rw [HEC.out])⟩
        · obtain rfl := Option.some.inj (show some _ = some o from ho)
          refine PG.shown_val rfl fun a w3 hr T => ?_
          have h100 : a.eval (.tmp 100) = .agg e.cells.toArray := T.at_ 1 100 (by kernel_rfl) (by kernel_rfl)
          rw [HEC.out] at h100
          have hz3 : w1.heap.size < w3.heap.size := Nat.lt_of_lt_of_le hEr hr.1.size
          have h3 := T.yet 3 (by kernel_rfl)
          refine ⟨.slice (some ⟨w3.heap.size, 0, none⟩) 1 1, w3.alloc (.cells #[.int .u64 th, .int .u64 tl, .int .i64 f, .int .i64 la, .bool su, .slice eA en ec] 59), by simp only [execOp, List.map_toArray, List.map_cons, List.map_nil, h100]; simp [go_sem], zpost hz3 ((Below.refl _ _).alloc (Nat.le_refl _) _) ⟨w3.heap.size, rfl, by rw [HEC.out]; exact Rd.lit w3 _ _, by simp, fun he => by have := own_block_lt (OwnEps.own h3) _ he; omega⟩⟩
        · obtain rfl := Option.some.inj (show some _ = some o from ho)
          refine PG.shown_val rfl fun a w3 hr T => ?_
          have h99 : a.eval (.tmp 99) = u8 := T.at_ 0 99 (by kernel_rfl) (by kernel_rfl)
          obtain ⟨gg, h101, hrd, hgl, hgn⟩ := T.at_ 2 101 (by kernel_rfl) (by kernel_rfl)
          have h3 : OwnEps w3 (w1.heap.size + 1) u8 le := T.own
          have hz3 : w1.heap.size < w3.heap.size := Nat.lt_of_lt_of_le hEr hr.1.size
          have hS3 := hr.2 HZ0.out
          have hOE : OwnE w3 (w1.heap.size + 1) e := by rw [HEE.out]; unfold OwnE; simp only; rw [← HEN.out]; exact hS3.1
          obtain ⟨v', w', r1, r2, r3⟩ := appEp (ty := 62) (xs := [e]) 1 1 rfl h3 (fun x hx => by rw [List.mem_singleton] at hx; subst hx; exact hOE) (by simpa using hrd) (by omega) (by omega) hz3
          refine ⟨v', w', by simp only [execOp, resolve, invoke, builtin, Sem.run_bind, Sem.run_pure, Result.andThen_ok, List.map_toArray, List.map_cons, List.map_nil, h99, h101, r1], ⟨r3.below (Below.refl _ _) hz3 (own_block_ge h3.own), fun hS => ⟨OwnSps.grew hS.1 h3.own r3 (by decide) (by decide), own_grew hS.2 r3 (own_apart hS.2 h3.own (by decide))⟩⟩, ?_, fun j hj hG => ?_, fun j v hj hw hF => ?_⟩
          · obtain ⟨A5, c5, hv, _, _⟩ := r2.rd
            exact ⟨A5, c5, by simpa using hv, r2⟩
          · unfold ZG at *
            split
            · exact absurd rfl hj
            · trivial
          · match j, hj, hw, hF with
            | 0, _, _, hF => exact hF
            | 1, _, _, hF => exact hF
            | 2, _, _, hF => obtain ⟨g2, h1, h2, h4, h5⟩ := hF; exact ⟨g2, h1, h2.block (r3.grown.block g2 h4 (Ne.symm h5)), Nat.lt_of_lt_of_le h4 r3.grown.size, h5⟩
            | 3, hj, _, _ => exact absurd rfl hj
            | 4, _, _, hF => exact hF
            | 5, _, _, hF => obtain ⟨A5, c5, l5, h1, h2, h4⟩ := hF; exact ⟨A5, c5, l5, h1, OwnSps.grew h2 h3.own r3 (by decide) (by decide), h4⟩
            | 6, _, _, hF => obtain ⟨A5, c5, l5, h1, h2, h4⟩ := hF; exact ⟨A5, c5, l5, h1, OwnSps.grew h2 h3.own r3 (by decide) (by decide), h4⟩
            | _ + 7, _, _, _ => trivial
        · obtain rfl := Option.some.inj (show some _ = some o from ho)
          refine PG.shown_val rfl fun a w3 hr T => ?_
          have h5 : a.eval (.tmp 5) = .pointer (some ⟨w.heap.size, 0, none⟩) := T.was 5 (by kernel_rfl)
          have hO : w3.heap[w.heap.size]? = some (.cells #[.int .u64 th, .int .u64 tl] 33) := (hr.1.block _ (by omega)).trans HTT.out
          have v0 : w3.cell? ⟨w.heap.size, 0, none⟩ = some (.int .u64 th) := cell_of_row _ _ 0 _ _ (0, 0) hO
          have v1 : w3.cell? ⟨w.heap.size, 1, none⟩ = some (.int .u64 tl) := cell_of_row _ _ 1 _ _ (0, 0) hO
          exact ⟨.agg #[.int .u64 th, .int .u64 tl], w3, by simp only [execOp, h5]; simp [go_sem, v0, v1], PG.Post.pure ZR.goes rfl⟩
        · obtain rfl := Option.some.inj (show some _ = some o from ho)
          refine PG.shown_call rfl 41 fun a w3 hr T => ?_
          obtain ⟨A2, c2, h102, ho3⟩ := T.at_ 3 102 (by kernel_rfl) (by kernel_rfl)
          have h103 : a.eval (.tmp 103) = .agg #[.int .u64 th, .int .u64 tl] := T.at_ 4 103 (by kernel_rfl) (by kernel_rfl)
          rw [h102] at ho3
          have hz3 : w1.heap.size < w3.heap.size := Nat.lt_of_lt_of_le hEr hr.1.size
          have hrd : RdEps w3 w3.heap.size A2 (le ++ [e]) := by
            obtain ⟨A', c', hv, _, hr⟩ := ho3.rd
            injection hv with h1 _ h3
            subst h1
            exact hr
          refine ⟨#[.slice A2 (le.length + 1) c2, .agg #[.int .u64 th, .int .u64 tl]], by simp only [execOp, resolve, List.map_toArray, List.map_cons, List.map_nil, h102, h103]; simp [go_sem, Act.eval], ?_⟩
          refine (spans_any A2 (le ++ [e]) (le.length + 1) c2 w3.heap.size th tl w3 (by simp) hrd (Nat.le_refl _) (by omega) (fun x hx => (HLE9.out x hx).1) (fun x hx => (HLE9.out x hx).2)).mono fun e w4 hh => ?_
          obtain ⟨v, l5, rfl, ho4, hm4, hb4⟩ := hh
          obtain ⟨A5, c5, rfl, _, _⟩ := ho4.rd
          exact ⟨_, rfl, zpost hz3 hb4 ⟨A5, c5, l5, rfl, ho4.mono hz3, hm4⟩⟩
        · obtain rfl := Option.some.inj (show some _ = some o from ho)
          exact PG.shown_move (.tmp 104) rfl (.inr rfl) ZR.goes fun a w3 hr T => T.at_ 5 104 (by kernel_rfl) (by kernel_rfl)
        · cases ho
      · intro x w9 hr hf he
        obtain ⟨A5, c5, l5, hx6, ho9, hm9⟩ := hf 6 _ 15 rfl rfl
        have hlen : l5.length = want.length := by
          rw [← HON9.out.ids, List.length_map, ← hm9, List.length_map]
        have hR9 : Hid (RdSps w9 w9.heap.size A5 l5) := Lib.hid (by
          rw [hx6] at ho9
          obtain ⟨A', c', hv, _, hr⟩ := ho9.rd
          injection hv with h1 _ h3
          subst h1
          exact hr)
        rw [hlen] at hx6
        have HM9 := Lib.hid hm9
        have HL9 := Lib.hid hlen
        have hW9 := (hr.2 (show ZS w1.heap.size u10 (.slice eA en ec) ls want wr.drew from ⟨HOS.out.sps.below (w' := wr.drew) ⟨rfl, rfl, rfl, Nat.le_refl _, fun _ _ => rfl⟩, own_below (w' := wr.drew) HOS.out.row ⟨rfl, rfl, rfl, Nat.le_refl _, fun _ _ => rfl⟩⟩)).2
        obtain ⟨wA, wC, rfl, hwC, hwr9⟩ := own_rd hW9
        have HB9 : Hid (Below w.heap.size w w9) := Lib.hid (HOS.out.below.trans ((show Below wr.heap.size wr wr.drew from ⟨rfl, rfl, rfl, Nat.le_refl _, fun _ _ => rfl⟩).mono (by omega) |>.trans (hr.1.mono (by omega))))
        have HWR9 := Lib.hid hwr9
        have HI9 : Hid (Rd w9 B A (l.map (Value.int .i64))) := Lib.hid (HY.out.keep (fun p hp => HB9.out.cell (by omega)))
        clear hf he hr hm9 hlen ho9 hW9 hwr9 t0 t1 p0 p1 p2 p3 p4 p5 HOS HEN2 HEE HEC HLE9
        simp only [PG.putAll, Act.put, List.setIfInBounds_toArray, List.set_cons_zero, List.set_cons_succ, Nat.reduceAdd, Nat.zero_add]
        generalize x 6 = x6 at *
        subst hx6
        go_wp2_with fail
        generalize wr = w00 at *
        go_loopw [16] (fun i wq => ∃ q : Nat, i = .int .i64 q ∧ q ≤ want.length ∧ Hid (∀ p, wq.cell? p = w9.cell? p) ∧ Hid (Below w.heap.size w wq)) (fun i _ => want.length - (intOf i).toNat)
        case atStart => exact ⟨0, rfl, Nat.zero_le _, Lib.hid (fun _ => rfl), HB9⟩
        case round =>
          obtain ⟨q, rfl, hq, HC, HB⟩ := hrel
          by_cases hqm : q < want.length
          · obtain ⟨s, hs⟩ : ∃ s, l5[q]? = some s := ⟨_, List.getElem?_eq_getElem (by rw [HL9.out]; exact hqm)⟩
            have hs2 : (spAll th tl (le ++ [e])).1[q]? = some s.s := by rw [← HM9.out, List.getElem?_map, hs]; rfl
            obtain ⟨hwq, j, hj, hst, hid⟩ := HON9.out.fin hs2
            obtain ⟨a5, ha5, hab5, hd5, hxl5⟩ := hR9.out.at_ hs
            subst ha5
            obtain ⟨a6, ha6, hab6, hd6⟩ := HWR9.out (by rw [List.length_map]; omega)
            subst ha6
            obtain ⟨z, hz⟩ : ∃ z, l[j]? = some z := ⟨_, List.getElem?_eq_getElem (by rw [← HN.out]; exact hj)⟩
            obtain ⟨a7, ha7, hab7, hd7⟩ := HI9.out (by rw [List.length_map, ← HN.out]; omega)
            subst ha7
            obtain ⟨⟨x0, x1, x2, x3, x4, x5, x6, x7, x8, ats⟩, xA, xc⟩ := s
            simp only at hwq hst hid
            subst hst
            obtain ⟨y, hxy⟩ : ∃ y, y = z % 16 := ⟨_, rfl⟩
            have hy0 : 0 ≤ y := by omega
            have hy1 : y ≤ 15 := by omega
            have e15 : bits .and .i64 z 15 = y := by rw [i64_and15, hxy]
            have hgj : x2 = y := by rw [hid, HG.out]; simp only [List.getD_eq_getElem?_getD, hz, Option.getD_some]; exact hxy.symm
            subst hgj
            have d2 := (HC.out _).trans (cell_far (hd5 2 _ rfl) (by omega))
            have d6 := (HC.out _).trans (cell_far (hd5 6 _ rfl) (by omega))
            have d0 := (HC.out _).trans (hd5 0 _ rfl)
            have c6 : wr.cell? (a6.add q) = some (.int .u64 x2) := (HC.out _).trans (hd6 q _ (by rw [List.getElem?_map, hwq]; rfl))
            have c7 : wr.cell? (a7.add j) = some (.int .i64 z) := (HC.out _).trans (hd7 j _ (by rw [List.getElem?_map, hz]; rfl))
            simp only at d2 d6
            have i1 : (0 : Int) ≤ q := by omega
            have i2 : (q : Int) < want.length := by omega
            have i3 : (0 : Int) ≤ j := by omega
            have i4 : (j : Int) < k := by omega
            have w15 : IntKind.i64.wrap x2 = x2 := by simp only [IntKind.wrap_i64]; omega
            clear hd5 hd6 hd7 hs hs2 hwq hxl5 hz hxy hid
            go_wp2_with fail
            go_quiet (fail)
            go_wp2_with fail
            go_roundw
            case rel => exact ⟨q + 1, by go_num, by omega, Lib.hid (fun p => HC.out p), Lib.hid (HB.out.trans ⟨rfl, rfl, rfl, Nat.le_refl _, fun _ _ => rfl⟩)⟩
            case measure => simp [intOf]; omega
          · obtain rfl : q = want.length := by omega
            go_wp2_with fail
            go_ret
            exact ⟨rfl, HB.out⟩
end Go.Proofs.Ythkclgkbidhmbaa
