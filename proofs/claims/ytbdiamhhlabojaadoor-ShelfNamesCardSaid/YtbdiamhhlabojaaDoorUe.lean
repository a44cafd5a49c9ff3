/- Where a file of that name stands, or would stand. -/
import Derived.Test.YtbdiamhhlabojaaDoorUc
namespace Go.Proofs.YtbdiamhhlabojaaDoor
open Go.RowKit
set_option linter.unusedVariables false
set_option linter.unusedSimpArgs false
set_option maxRecDepth 100000

theorem cmpD_flip : ∀ (a b : List UInt8), Lib.compareBytes b a = - Lib.compareBytes a b
  | [], [] => by simp [Lib.compareBytes]
  | [], _ :: _ => by simp [Lib.compareBytes]
  | _ :: _, [] => by simp [Lib.compareBytes]
  | a :: ra, b :: rb => by
    unfold Lib.compareBytes
    by_cases h : a < b
    · have h2 : ¬ b < a := fun h3 => absurd (UInt8.lt_trans h h3) (UInt8.lt_irrefl a)
      simp [h, h2]
    · by_cases h2 : b < a
      · simp [h, h2]
      · simp only [h, h2, if_false]
        exact cmpD_flip ra rb
theorem cmpD_trans : ∀ (a b c : List UInt8), Lib.compareBytes a b < 0 → Lib.compareBytes b c < 0 → Lib.compareBytes a c < 0
  | [], [], _, h, _ => by simp [Lib.compareBytes] at h
  | _ :: _, [], _, h, _ => by simp [Lib.compareBytes] at h
  | [], _ :: _, [], _, h => by simp [Lib.compareBytes] at h
  | _ :: _, _ :: _, [], _, h => by simp [Lib.compareBytes] at h
  | [], _ :: _, _ :: _, _, _ => by simp [Lib.compareBytes]
  | a :: ra, b :: rb, c :: rc, h1, h2 => by
    unfold Lib.compareBytes at h1 h2 ⊢
    by_cases ab : a < b
    · by_cases bc : b < c
      · simp [UInt8.lt_trans ab bc]
      · rw [if_neg bc] at h2
        by_cases cb : c < b
        · rw [if_pos cb] at h2; exact absurd h2 (by decide)
        · have e : b = c := UInt8.le_antisymm (UInt8.not_lt.1 cb) (UInt8.not_lt.1 bc)
          subst e
          simp [ab]
    · rw [if_neg ab] at h1
      by_cases ba : b < a
      · rw [if_pos ba] at h1; exact absurd h1 (by decide)
      · rw [if_neg ba] at h1
        have e : a = b := UInt8.le_antisymm (UInt8.not_lt.1 ba) (UInt8.not_lt.1 ab)
        subst e
        by_cases bc : a < c
        · simp [bc]
        · rw [if_neg bc] at h2 ⊢
          by_cases cb : c < a
          · rw [if_pos cb] at h2; exact absurd h2 (by decide)
          · rw [if_neg cb] at h2 ⊢
            exact cmpD_trans ra rb rc h1 h2
theorem nmD_flip (a b : ByteArray) : cmpT b a = - cmpT a b := cmpD_flip _ _
theorem nmD_trans {a b c : ByteArray} (h : cmpT a b < 0) (k : cmpT b c < 0) : cmpT a c < 0 := cmpD_trans _ _ _ h k
def SortF (l : List Lf) : Prop := l.Pairwise fun a b => cmpT a.nm b.nm < 0
def posF (l : List Lf) (nm : ByteArray) : Nat := l.countP fun f => decide (cmpT f.nm nm < 0)
def hitF (l : List Lf) (nm : ByteArray) : Bool := (l[posF l nm]?).any fun f => decide (cmpT f.nm nm = 0)
theorem pos_le (l : List Lf) (nm : ByteArray) : posF l nm ≤ l.length := List.countP_le_length
theorem pos_lt : ∀ {l : List Lf} {nm : ByteArray} {t : Nat} {f : Lf}, SortF l → l[t]? = some f → (cmpT f.nm nm < 0 ↔ t < posF l nm)
  | [], nm, t, f, h, ht => by simp at ht
  | a :: r, nm, 0, f, h, ht => by
    simp at ht
    subst ht
    unfold posF
    rw [List.countP_cons]
    constructor
    · intro h1; simp [h1]
    · intro h1
      by_cases h2 : cmpT a.nm nm < 0
      · exact h2
      · exfalso
        simp only [h2, decide_false, Bool.false_eq_true, if_false] at h1
        obtain ⟨x, hx, hx2⟩ := List.countP_pos_iff.1 (by omega : 0 < r.countP fun f => decide (cmpT f.nm nm < 0))
        exact h2 (nmD_trans ((List.pairwise_cons.1 h).1 x hx) (of_decide_eq_true hx2))
  | a :: r, nm, t + 1, f, h, ht => by
    have ih := pos_lt (nm := nm) (t := t) (f := f) (List.pairwise_cons.1 h).2 (by simpa using ht)
    unfold posF at ih ⊢
    rw [List.countP_cons]
    by_cases h2 : cmpT a.nm nm < 0
    · simp only [h2, decide_true, if_true]; omega
    · simp only [h2, decide_false, Bool.false_eq_true, if_false]
      constructor
      · intro h3
        exfalso
        have hf : f ∈ r := List.mem_of_getElem? (by simpa using ht)
        exact h2 (nmD_trans ((List.pairwise_cons.1 h).1 f hf) h3)
      · intro h3
        exact ih.2 (by omega)
theorem find1_any (f : Lf) (n : Nat) (nm : ByteArray) (w : World) :
    Calls Tryd.prog 69 #[.agg #[.string f.nm, .slice f.A n f.c, .int .i64 f.su], .string nm] w fun e w' => e = .returned (.int .i64 (cmpT f.nm nm)) ∧ Below w.heap.size w w' := by
  have HB := Lib.hid ((Below.refl w.heap.size w).alloc (Nat.le_refl _) (.cells #[.string f.nm, .slice f.A n f.c, .int .i64 f.su] 78))
  go_enter Tryd.func69, Tryd.ntmps69
  go_wp2_with (go_at_call 70; (refine (compare_calls _ _ _).mono ?_); rintro e w1 ⟨rfl, hw1⟩; subst hw1)
  go_ret
  exact ⟨rfl, HB.out⟩
theorem file_cells {w : World} {B : Nat} {A : Option Addr} {l : List Lf} (h : Rd w B A (l.flatMap Lf.cells)) {k : Nat} {e : Lf} (he : l[k]? = some e) (q : Nat) (hq : q = e.da.length) : ∃ a, A = some a ∧ a.block < B ∧ w.cell? (a.add (k * 3)) = some (.string e.nm) ∧ w.cell? ⟨(a.add (k * 3)).block, (a.add (k * 3)).off + 1, none⟩ = some (.slice e.A q e.c) ∧ w.cell? ⟨(a.add (k * 3)).block, (a.add (k * 3)).off + 2, none⟩ = some (.int .i64 e.su) := by
  obtain ⟨a, hA, hb, hc⟩ := lf_at h he
  subst hq
  exact ⟨a, hA, hb, hc 0 _ rfl, cell_far (hc 1 _ rfl) (by decide), cell_far (hc 2 _ rfl) (by decide)⟩
set_option maxHeartbeats 4000000 in
theorem search_any (A : Option Addr) (l : List Lf) (n c B : Nat) (nm : ByteArray) (w : World) (hn : n = l.length) (hr : Rd w B A (l.flatMap Lf.cells)) (hB : B ≤ w.heap.size) (hs : SortF l) (hsm : n ≤ 1000000) :
    Calls Tryd.prog 68 #[.slice A n c, .string nm, .func (.func 69) #[] #[]] w fun e w' => e = .returned (.tuple #[.int .i64 (posF l nm : Nat), .bool (hitF l nm)]) ∧ Below w.heap.size w w' := by
  have HN := Lib.hid hn
  have HR := Lib.hid hr
  have HS := Lib.hid hs
  have hpl := pos_le l nm
  have HPL : Hid (posF l nm ≤ n) := Lib.hid (by rw [hn]; exact hpl)
  have HPT : Hid (∀ t f, l[t]? = some f → (cmpT f.nm nm < 0 ↔ t < posF l nm)) := Lib.hid (fun t f hf => pos_lt hs hf)
  have HHT : Hid (hitF l nm = (l[posF l nm]?).any fun f => decide (cmpT f.nm nm = 0)) := Lib.hid rfl
  clear hn hr hs hpl
  generalize hitF l nm = hit at *
  generalize posF l nm = pos at *
  go_enter Tryd.func68, Tryd.ntmps68
  go_wp2_with fail
  go_loopw [9, 10] (fun a b wr => ∃ lo hi : Nat, a = .int .i64 lo ∧ b = .int .i64 hi ∧ lo ≤ hi ∧ hi ≤ n ∧ Hid (lo ≤ pos) ∧ Hid (pos ≤ hi) ∧ Hid (Below w.heap.size w wr)) (fun a b _ => (intOf b).toNat - (intOf a).toNat)
  case atStart => exact ⟨0, n, rfl, rfl, Nat.zero_le _, Nat.le_refl _, Lib.hid (Nat.zero_le _), HPL, Lib.hid (Below.refl _ _)⟩
  case round =>
    obtain ⟨lo, hi, rfl, rfl, hlh, hin, HLO, HHI, HW⟩ := hrel
    by_cases hlt : lo < hi
    · obtain ⟨m, hm⟩ : ∃ m, m = (lo + hi) / 2 := ⟨_, rfl⟩
      have e1 : ((lo : Int) + (hi : Int)) / 2 = (m : Int) := by omega
      have hmn : m < n := by omega
      have hm1 : lo ≤ m := by omega
      have hm2 : m < hi := by omega
      obtain ⟨f, hf⟩ : ∃ f, l[m]? = some f := ⟨_, List.getElem?_eq_getElem (by rw [← HN.out]; exact hmn)⟩
      have HPM := Lib.hid (HPT.out m f hf)
      obtain ⟨q, hq⟩ : ∃ q, q = f.da.length := ⟨_, rfl⟩
      obtain ⟨a, ha, hab, x0, x1, x2⟩ := file_cells (HR.out.below (HW.out.mono hB)) hf q hq
      subst ha
      have FC := Lib.hid (find1_any f q nm wr)
      clear hm hf hq
      by_cases hc : cmpT f.nm nm < 0
      · have d1 : decide (cmpT f.nm nm < 0) = true := decide_eq_true hc
        have hlo2 : m < pos := HPM.out.1 hc
        clear HPM hc
        generalize cmpT f.nm nm = kk at *
        go_wp2_with (go_at_call 69; refine FC.out.mono ?_; rintro e w1 ⟨rfl, hb1⟩; have HB1 := Lib.hid (HW.out.trans (hb1.mono HW.out.size)))
        go_roundw
        case rel => exact ⟨m + 1, hi, by go_num, rfl, by omega, hin, Lib.hid hlo2, HHI, HB1⟩
        case measure => simp [intOf]; omega
      · have d1 : decide (cmpT f.nm nm < 0) = false := decide_eq_false hc
        have hlo2 : pos ≤ m := Nat.not_lt.1 (fun h => hc (HPM.out.2 h))
        clear HPM hc
        generalize cmpT f.nm nm = kk at *
        go_wp2_with (go_at_call 69; refine FC.out.mono ?_; rintro e w1 ⟨rfl, hb1⟩; have HB1 := Lib.hid (HW.out.trans (hb1.mono HW.out.size)))
        go_roundw
        case rel => exact ⟨lo, m, rfl, by first | rfl | go_num, by omega, by omega, HLO, Lib.hid hlo2, HB1⟩
        case measure => simp [intOf]; omega
    · obtain rfl : lo = hi := by omega
      have hp : pos = lo := by have := HLO.out; have := HHI.out; omega
      subst hp
      by_cases hpn : pos < n
      · obtain ⟨f, hf⟩ : ∃ f, l[pos]? = some f := ⟨_, List.getElem?_eq_getElem (by rw [← HN.out]; exact hpn)⟩
        have HH2 : Hid (hit = decide (cmpT f.nm nm = 0)) := Lib.hid (by rw [HHT.out, hf]; rfl)
        obtain ⟨q, hq⟩ : ∃ q, q = f.da.length := ⟨_, rfl⟩
        obtain ⟨a, ha, hab, x0, x1, x2⟩ := file_cells (HR.out.below (HW.out.mono hB)) hf q hq
        subst ha
        have FC := Lib.hid (find1_any f q nm wr)
        clear hf hq HHT
        by_cases hc : cmpT f.nm nm = 0
        · have d1 : (cmpT f.nm nm == 0) = true := beq_iff_eq.2 hc
          have hh : hit = true := by rw [HH2.out, hc]; rfl
          clear HH2 hc
          generalize cmpT f.nm nm = kk at *
          go_wp2_with (go_at_call 69; refine FC.out.mono ?_; rintro e w1 ⟨rfl, hb1⟩; have HB1 := Lib.hid (HW.out.trans (hb1.mono HW.out.size)))
          go_ret2
          exact ⟨by rw [hh]; rfl, HB1.out⟩
        · have d1 : (cmpT f.nm nm == 0) = false := beq_eq_false_iff_ne.2 hc
          have hh : hit = false := by rw [HH2.out]; exact decide_eq_false hc
          clear HH2 hc
          generalize cmpT f.nm nm = kk at *
          go_wp2_with (go_at_call 69; refine FC.out.mono ?_; rintro e w1 ⟨rfl, hb1⟩; have HB1 := Lib.hid (HW.out.trans (hb1.mono HW.out.size)))
          go_ret2
          exact ⟨by rw [hh]; rfl, HB1.out⟩
      · have hh : hit = false := by rw [HHT.out, List.getElem?_eq_none (by rw [← HN.out]; omega)]; rfl
        go_wp2_with fail
        go_ret2
        exact ⟨by rw [hh]; rfl, HW.out⟩
theorem finddev_any (base : Nat) (d : Dv) (nm : ByteArray) (w : World) (h : DvAt w base d) (hs : SortF d.fs) (hsm : d.fs.length ≤ 1000000) :
    Calls Tryd.prog 46 #[.pointer (some ⟨d.D, 0, none⟩), .string nm] w fun e w' => e = .returned (.tuple #[.int .i64 (posF d.fs nm : Nat), .bool (hitF d.fs nm)]) ∧ Below w.heap.size w w' := by
  have h2 := h.c2
  obtain ⟨n, hn⟩ : ∃ n, n = d.fs.length := ⟨_, rfl⟩
  have SA := Lib.hid (search_any d.A d.fs n d.c w.heap.size nm w hn (Rd.of_own h.own) (Nat.le_refl _) hs (by omega))
  rw [← hn] at h2
  clear hn h hs hsm
  generalize hitF d.fs nm = hit at *
  generalize posF d.fs nm = pos at *
  go_enter Tryd.func46, Tryd.ntmps46
  go_wp2_with (go_at_call 68; refine SA.out.mono ?_; rintro e w1 ⟨rfl, hb1⟩; have HB1 := Lib.hid hb1)
  go_ret2
  exact ⟨rfl, HB1.out⟩
end Go.Proofs.YtbdiamhhlabojaaDoor
