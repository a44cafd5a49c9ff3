/- device.Rename by what it says. -/
import Derived.Test.YtbdiamhhlabojaaDoorUt
import Derived.Test.YtbdiamhhlabojaaDoorUs
namespace Go.Proofs.YtbdiamhhlabojaaDoor
open Go.RowKit
set_option linter.unusedVariables false
set_option linter.unusedSimpArgs false
set_option maxRecDepth 100000

theorem rename_noneL (base D : Nat) (g : Dg) (S : Nat → Prop) (frm tn : ByteArray) (w : World) (h : DvL w base D g S) (hk : g.ok) (hd : g.dead = false) (hh : hitG g.L frm = false) : Calls Tryd.prog 57 #[.pointer (some ⟨D, 0, none⟩), .string frm, .string tn] w (LeftL base D g S (.int .i64 4) w) := by
  obtain ⟨d, h1, rfl, e1, e2, e3, e4, e5, rfl⟩ := h
  have hs := hk.srt
  have hf := hk.few
  rw [← e5] at hs hh hf
  rw [hitG_of] at hh
  rw [List.length_map] at hf
  exact (rename_none base d frm tn w h1 (by rw [dead_of e3 e4]; exact hd) (sortG_of hs) hf hh).mono fun e w' h => ⟨h.1, _, ⟨_, h.2.1, rfl, e1, e2, e3, e4, e5, rfl⟩, h.2.2⟩
theorem rename_emptyL (base D : Nat) (g : Dg) (S : Nat → Prop) (frm tn : ByteArray) (w : World) (h : DvL w base D g S) (hk : g.ok) (hd : g.dead = false) (hh : hitG g.L frm = true) (hto : (tn.toList == ([] : List UInt8)) = true) : Calls Tryd.prog 57 #[.pointer (some ⟨D, 0, none⟩), .string frm, .string tn] w (LeftL base D g S (.int .i64 1) w) := by
  obtain ⟨d, h1, rfl, e1, e2, e3, e4, e5, rfl⟩ := h
  have hs := hk.srt
  have hf := hk.few
  rw [← e5] at hs hh hf
  rw [hitG_of] at hh
  rw [List.length_map] at hf
  exact (rename_empty base d frm tn w h1 (by rw [dead_of e3 e4]; exact hd) (sortG_of hs) hf hh hto).mono fun e w' h => ⟨h.1, _, ⟨_, h.2.1, rfl, e1, e2, e3, e4, e5, rfl⟩, h.2.2⟩
theorem rename0L (base D : Nat) (g : Dg) (S : Nat → Prop) (frm tn : ByteArray) (i p : Nat) (x : Lg) (w : World) (h : DvL w base D g S) (hk : g.ok) (hd : g.dead = false) (hh : hitG g.L frm = true) (hi : posG g.L frm = i) (hx : g.L[i]? = some x) (hto : (tn.toList == ([] : List UInt8)) = false) (hne : (tn.toList == frm.toList) = false)
    (hh2 : hitG (g.L.eraseIdx i) tn = false) (hp : posG (g.L.eraseIdx i) tn = p) : Calls Tryd.prog 57 #[.pointer (some ⟨D, 0, none⟩), .string frm, .string tn] w (LeftL base D ({ g with L := (g.L.eraseIdx i).take p ++ (tn, x.2.1, x.2.2) :: (g.L.eraseIdx i).drop p } : Dg).burnt S (.int .i64 0) w) := by
  obtain ⟨d, h1, rfl, e1, e2, e3, e4, e5, rfl⟩ := h
  have hs := hk.srt
  have hf := hk.few
  have hu := hk.us
  have hl := hk.lf
  have hb := hk.big
  rw [← e5] at hs hh hf hi hx hh2 hp hb
  rw [← map_erase] at hh2 hp
  rw [hitG_of] at hh hh2
  rw [posG_of] at hi hp
  rw [List.length_map] at hf
  obtain ⟨f, hfi, f1, f2, f3⟩ := at_of hx

  refine (rename_move0 base d frm tn i p f w h1 (by rw [dead_of e3 e4]; exact hd) (sortG_of hs) hf hh hi.symm hfi hto hne (by rw [e4]; exact hl) (by rw [e2]; exact hu) (fun z hz => by have := hb z.lg (List.mem_map_of_mem hz); have h2 : z.lg.2.1.length = z.da.length := rfl; omega) hp.symm hh2).mono fun e w' hh => ?_
  obtain ⟨d', ⟨p0, p1, p2⟩, q1, q2, q3, q4, q5, q6⟩ := hh
  exact ⟨p0, _, ⟨d', p1, q1, q2.trans e1, by rw [q3, e2]; rfl, q4.trans e3, by rw [q5, e3, e4]; rfl, by rw [q6, e5, f2, f3]; rfl, rfl⟩, p2⟩
theorem rename1L (base D : Nat) (g : Dg) (S : Nat → Prop) (frm tn : ByteArray) (i p : Nat) (x : Lg) (y : Lg) (w : World) (h : DvL w base D g S) (hk : g.ok) (hd : g.dead = false) (hh : hitG g.L frm = true) (hi : posG g.L frm = i) (hx : g.L[i]? = some x) (hto : (tn.toList == ([] : List UInt8)) = false) (hne : (tn.toList == frm.toList) = false)
    (hh2 : hitG (g.L.eraseIdx i) tn = true) (hp : posG (g.L.eraseIdx i) tn = p) (hy : (g.L.eraseIdx i)[p]? = some y) : Calls Tryd.prog 57 #[.pointer (some ⟨D, 0, none⟩), .string frm, .string tn] w (LeftL base D ({ g with us := g.us - (y.2.1.length : Int), L := ((g.L.eraseIdx i).eraseIdx p).take p ++ (tn, x.2.1, x.2.2) :: ((g.L.eraseIdx i).eraseIdx p).drop p } : Dg).burnt S (.int .i64 0) w) := by
  obtain ⟨d, h1, rfl, e1, e2, e3, e4, e5, rfl⟩ := h
  have hs := hk.srt
  have hf := hk.few
  have hu := hk.us
  have hl := hk.lf
  have hb := hk.big
  rw [← e5] at hs hh hf hi hx hh2 hp hb hy
  rw [← map_erase] at hh2 hp hy
  rw [hitG_of] at hh hh2
  rw [posG_of] at hi hp
  rw [List.length_map] at hf
  obtain ⟨f, hfi, f1, f2, f3⟩ := at_of hx
  obtain ⟨y0, hyi, y1, y2, y3⟩ := at_of hy
  refine (rename_move1 base d frm tn i p f w h1 (by rw [dead_of e3 e4]; exact hd) (sortG_of hs) hf hh hi.symm hfi hto hne (by rw [e4]; exact hl) (by rw [e2]; exact hu) (fun z hz => by have := hb z.lg (List.mem_map_of_mem hz); have h2 : z.lg.2.1.length = z.da.length := rfl; omega) hp.symm y0 hh2 hyi).mono fun e w' hh => ?_
  obtain ⟨d', ⟨p0, p1, p2⟩, q1, q2, q3, q4, q5, q6⟩ := hh
  exact ⟨p0, _, ⟨d', p1, q1, q2.trans e1, by rw [q3, e2, y2]; rfl, q4.trans e3, by rw [q5, e3, e4]; rfl, by rw [q6, e5, f2, f3]; rfl, rfl⟩, p2⟩
def gM (nm : ByteArray) (us : Int) (x : List UInt8) (su : Int) : Dg := ⟨1000, us, [(nm, x, su)], false, 0⟩
def gO (us : Int) (x : List UInt8) (su : Int) (b : List UInt8) : Dg := ⟨1000, us, [(⟨#[120]⟩, x, su), (⟨#[121]⟩, b, 0)], false, 0⟩
theorem hit_m (nm : ByteArray) (x : List UInt8) (su : Int) : hitG [(nm, x, su)] nm = true := first_hit (sort_one (nm, x, su))
theorem pos_m (nm : ByteArray) (x : List UInt8) (su : Int) : posG [(nm, x, su)] nm = 0 := first_pos (sort_one (nm, x, su))
theorem put_newM (nm : ByteArray) (a : List UInt8) : ((Dg.new 1000).put nm a).burnt = gM nm a.length a 0 := by
  unfold Dg.put Dg.burnt Dg.new gM
  have e : putL [] nm a = [(nm, a, 0)] := rfl
  simp only [e, Int.zero_add]
  rfl
theorem put_m (nm : ByteArray) (us : Int) (x b : List UInt8) (su : Int) : ((gM nm us x su).put nm b).burnt = gM nm (us + b.length) (x ++ b) su := by
  unfold Dg.put Dg.burnt gM
  have e : putL [(nm, x, su)] nm b = [(nm, x ++ b, su)] := by
    unfold putL
    rw [hit_m, pos_m]; rfl
  simp only [e]
  rfl
theorem sync_m (nm : ByteArray) (us : Int) (x : List UInt8) : ((gM nm us x 0).synced 0 (nm, x, 0)).burnt = gM nm us x x.length := by
  unfold Dg.synced Dg.burnt gM
  simp only [List.set_cons_zero]
  rfl
theorem gM_ok (nm : ByteArray) (us : Int) (x : List UInt8) (su : Int) (h1 : 0 ≤ us ∧ us ≤ 4611686018427387904) (h4 : x.length ≤ 2147483648) : (gM nm us x su).ok :=
  ok_one 1000 us 0 false (nm, x, su) h1 ⟨by decide, by decide⟩ ⟨by decide, by decide⟩ h4
theorem lt_xy : cmpT (⟨#[120]⟩ : ByteArray) ⟨#[121]⟩ < 0 := by decide +kernel
theorem cmp_yx : ¬ cmpT (⟨#[121]⟩ : ByteArray) ⟨#[120]⟩ < 0 ∧ cmpT (⟨#[121]⟩ : ByteArray) ⟨#[120]⟩ ≠ 0 := by decide +kernel
theorem cmp_rr (a : ByteArray) : cmpT a a = 0 := (cmpT_zero _ _).2 rfl
theorem gO_sort (x : List UInt8) (su : Int) (b : List UInt8) : SortG [((⟨#[120]⟩ : ByteArray), x, su), (⟨#[121]⟩, b, 0)] :=
  List.pairwise_cons.2 ⟨fun z hz => by rw [List.mem_singleton] at hz; subst hz; exact lt_xy, List.pairwise_singleton _ _⟩
theorem gO_ok (us : Int) (x : List UInt8) (su : Int) (b : List UInt8) (h1 : 0 ≤ us ∧ us ≤ 4611686018427387904) (h4 : x.length ≤ 2147483648) (h5 : b.length ≤ 2147483648) : (gO us x su b).ok :=
  ⟨h1, ⟨by show (0 : Int) ≤ 1000; decide, by show (1000 : Int) ≤ _; decide⟩, ⟨by show (_ : Int) ≤ 0; decide, by show (0 : Int) ≤ _; decide⟩, gO_sort x su b, by show 2 ≤ _; decide, fun z hz => by
    rw [show (gO us x su b).L = [((⟨#[120]⟩ : ByteArray), x, su), (⟨#[121]⟩, b, 0)] from rfl] at hz
    rcases List.mem_cons.1 hz with rfl | hz
    · exact h4
    · rw [List.mem_singleton] at hz; subst hz; exact h5⟩
theorem put_o (us : Int) (x : List UInt8) (su : Int) (b : List UInt8) : ((gM ⟨#[120]⟩ us x su).put ⟨#[121]⟩ b).burnt = gO (us + b.length) x su b := by
  unfold Dg.put Dg.burnt gM gO
  have e : putL [((⟨#[120]⟩ : ByteArray), x, su)] ⟨#[121]⟩ b = [(⟨#[120]⟩, x, su), (⟨#[121]⟩, b, 0)] :=
    put_all (fun z hz => by rw [List.mem_singleton] at hz; subst hz; exact lt_xy) b
  simp only [e]
  rfl
theorem miss_x (x : List UInt8) (su : Int) : hitG [((⟨#[121]⟩ : ByteArray), x, su)] ⟨#[120]⟩ = false := by
  have e : posG [((⟨#[121]⟩ : ByteArray), x, su)] ⟨#[120]⟩ = 0 := by
    unfold posG
    rw [List.countP_cons_of_neg (by simpa using cmp_yx.1)]; rfl
  unfold hitG
  rw [e]
  simp [cmp_yx.2]
/-- The file behind the crash: what was sure. -/
theorem crash_m (nm : ByteArray) (us : Int) (a r : List UInt8) : (gM nm us (a ++ r) a.length).crash [0] = gM nm a.length a a.length := by
  have hc : crashN [0] 0 [(nm, a ++ r, (a.length : Int))] = [(nm, a, (a.length : Int))] := by
    have e1 : cutE 0 (nm, a ++ r, (a.length : Int)) = (a.length : Int) := by
      unfold cutE
      show (a.length : Int) + min (max 0 0) (((a ++ r).length : Int) - a.length) = _
      rw [List.length_append]
      omega
    show [crashX 0 _] = _
    unfold crashX
    rw [e1, Int.toNat_natCast]
    show [(nm, (a ++ r).take a.length, _)] = _
    rw [List.take_left]
  unfold Dg.crash gM
  simp only [hc]
  have hs : sumD [(nm, a, (a.length : Int))] = (a.length : Int) := by unfold sumD; simp
  rw [hs]
end Go.Proofs.YtbdiamhhlabojaaDoor
