/- A block's bytes, and how many they are. -/
import Derived.Test.YtchcjbapbdfhkaaBqd
namespace Go.Proofs.Ytchcjbapbdfhkaa
open Go.RowKit Go.Maps
set_option linter.unusedVariables false
set_option linter.unusedSimpArgs false
set_option maxRecDepth 100000

def TwoR (u v : Value) : Prop := ∀ b, u.ownBlock = some b → v.ownBlock ≠ some b
theorem TwoR.symm {u v : Value} (h : TwoR u v) : TwoR v u := fun b hb hub => h b hub hb
theorem own_lt {w : World} {base e size n : Nat} {v : Value} {xs : List Value} (h : w.ownsRow base e size v n xs) {k : Nat} (hk : v.ownBlock = some k) : k < w.heap.size := by
  rcases h.2 with ⟨rfl, _⟩ | ⟨g, cap, cur, rfl, _, hg, _⟩
  · simp [Value.ownBlock] at hk
  · simp only [Value.ownBlock, Option.some.injEq] at hk
    subst hk
    exact in_heap hg
theorem TwoR.grew {w w' : World} {u v v' : Value} (hu : ∀ k, u.ownBlock = some k → k < w.heap.size) (hg : Grew w w' v v') (ht : TwoR u v) : TwoR u v' := fun b hb => by
  rcases hg.blk with e | ⟨g, e, hgw⟩
  · rw [e]; exact ht b hb
  · rw [e]
    intro he
    injection he with he
    have := hu b hb
    omega
/-- Two rows of one's own, side by side. -/
structure Rows2 (w0 w : World) (base : Nat) (u v : Value) (L K : List UInt8) : Prop where
  ou : w.ownsRow base 5 1 u (L).length ((L).map B8)
  ov : w.ownsRow base 5 1 v (K).length ((K).map B8)
  two : TwoR u v
  below : Below base w0 w
theorem Rows2.left {w0 w w' : World} {base : Nat} {u v u' : Value} {L K L' : List UInt8} (h : Rows2 w0 w base u v L K) (ho : w'.ownsRow base 5 1 u' (L').length ((L').map B8)) (hg : Grew w w' u u') (hb : base ≤ w0.heap.size) : Rows2 w0 w' base u' v L' K :=
  ⟨ho, own_grew h.ov hg (by
    rcases hu : u.ownBlock with _ | b
    · exact .inl rfl
    · exact .inr (h.two b hu)), (TwoR.grew (fun k hk => own_lt h.ov hk) hg h.two.symm).symm, hg.below h.below (Nat.le_trans hb h.below.size) (own_block_ge h.ou)⟩
theorem Rows2.right {w0 w w' : World} {base : Nat} {u v v' : Value} {L K K' : List UInt8} (h : Rows2 w0 w base u v L K) (ho : w'.ownsRow base 5 1 v' (K').length ((K').map B8)) (hg : Grew w w' v v') (hb : base ≤ w0.heap.size) : Rows2 w0 w' base u v' L K' :=
  ⟨own_grew h.ou hg (by
    rcases hv : v.ownBlock with _ | b
    · exact .inl rfl
    · exact .inr (h.two.symm b hv)), ho, TwoR.grew (fun k hk => own_lt h.ou hk) hg h.two, hg.below h.below (Nat.le_trans hb h.below.size) (own_block_ge h.ov)⟩
theorem Rows2.keep {w0 w w' : World} {base : Nat} {u v : Value} {L K : List UInt8} (h : Rows2 w0 w base u v L K) (hb : Below w.heap.size w w') (hk : base ≤ w0.heap.size) : Rows2 w0 w' base u v L K :=
  ⟨own_below h.ou hb, own_below h.ov hb, h.two, h.below.trans (hb.mono (Nat.le_trans hk h.below.size))⟩
def headN (a0 a1 a2 n : Nat) : Nat → List UInt8
  | 0 => []
  | 1 => Mi.put a0
  | 2 => Mi.put a0 ++ Mi.put a1
  | 3 => (Mi.put a0 ++ Mi.put a1) ++ Mi.put a2
  | _ => ((Mi.put a0 ++ Mi.put a1) ++ Mi.put a2) ++ Mi.put n
def nth4 (a0 a1 a2 n : Nat) : Nat → Nat
  | 0 => a0
  | 1 => a1
  | 2 => a2
  | _ => n
theorem headN_step (a0 a1 a2 n k : Nat) (h : k < 4) : headN a0 a1 a2 n (k + 1) = headN a0 a1 a2 n k ++ Mi.put (nth4 a0 a1 a2 n k) := by
  rcases k with _ | _ | _ | _ | k
  · rfl
  · rfl
  · rfl
  · rfl
  · omega
theorem headN_len (a0 a1 a2 n k : Nat) : (headN a0 a1 a2 n k).length ≤ 40 := by
  have h0 := (Mi.put_len a0).2
  have h1 := (Mi.put_len a1).2
  have h2 := (Mi.put_len a2).2
  have h3 := (Mi.put_len n).2
  rcases k with _ | _ | _ | _ | k
  all_goals
    unfold headN
    simp only [List.length_append, List.length_nil]
    omega
set_option maxHeartbeats 32000000 in
theorem bytes_nat (a0 a1 a2 : Nat) (A : Option Addr) (l : List Le) (n c B : Nat) (w : World) (hn : n = l.length) (hy : RdEps w B A l) (hB : B ≤ w.heap.size) (hl : n ≤ 120) (hs : ∀ e ∈ l, e.l.length ≤ 60) (hok : ∀ e ∈ l, e.ok) (h0 : a0 ≤ 1099511627776) (h1 : a1 ≤ 1099511627776) (h2 : a2 ≤ 1099511627776) (hr : rightBk a0 a1 a2 (l.map Le.ep) = true) :
    Calls Try.prog 17 #[.agg #[.int .i64 (a0 : Int), .int .i64 (a1 : Int), .int .i64 (a2 : Int), .slice A n c]] w (BytesOf (encBk a0 a1 a2 (l.map Le.ep) ++ Cm.le4 (Cm.sum (encBk a0 a1 a2 (l.map Le.ep)))) w) := by
  obtain ⟨L, hL⟩ : ∃ L, L = l.map Le.ep := ⟨_, rfl⟩
  have hLn : L.length = n := by rw [hL, List.length_map, hn]
  have RB := Lib.hid (fun (W : World) (hW : Below w.heap.size w W) => right_blk a0 a1 a2 A l n c B W hn (hy.below (hW.mono hB)) (Nat.le_trans hB hW.size) (by omega) (fun e he => Nat.le_trans (hs e he) (by omega)))
  rw [← hL] at hr ⊢
  rw [← hL, hr] at RB
  have HENC : Hid (encBk a0 a1 a2 L = headN a0 a1 a2 n 4 ++ (L.flatMap idxE ++ L.flatMap bodyE)) := Lib.hid (by
    unfold encBk headN
    simp only [Int.toNat_natCast, hLn, List.append_assoc])
  have HENL := Lib.hid (encBk_len hr (by omega) (fun e he => by
    rw [hL] at he
    obtain ⟨x, hx, rfl⟩ := List.mem_map.1 he
    show (x.l.map Ls.s).length ≤ 60
    rw [List.length_map]
    exact hs x hx))
  have HRE := Lib.hid (rightBk_parts hr).2.2.2
  have HLE := Lib.hid hL
  have HLN := Lib.hid hLn
  have HN := Lib.hid hn
  have HY := Lib.hid hy
  have HS := Lib.hid hs
  have HOKS := Lib.hid hok
  clear hL hLn hn hy hs hr hok
  have HB0 := Lib.hid ((Below.refl w.heap.size w).alloc (Nat.le_refl _) (.cells #[.int .i64 (a0 : Int), .int .i64 (a1 : Int), .int .i64 (a2 : Int), .slice A n c] 24))
  have HRB := Lib.hid (RB.out _ HB0.out)
  have hbx := heap_alloc_new w (.cells #[.int .i64 (a0 : Int), .int .i64 (a1 : Int), .int .i64 (a2 : Int), .slice A n c] 24)
  have HBX := Lib.hid hbx
  have hW1 : (w.alloc (.cells #[.int .i64 (a0 : Int), .int .i64 (a1 : Int), .int .i64 (a2 : Int), .slice A n c] 24)).heap.size = w.heap.size + 1 := by simp
  clear hbx RB
  go_enter Try.func17, Try.ntmps17
  go_wp2_with (go_at_call 23; (with_reducible refine HRB.out.mono ?_); rintro e w1 ⟨rfl, hb1⟩; have hb3 := (hb1.block w.heap.size (by omega)).trans HBX.out; have b0 : w1.cell? ⟨w.heap.size, 0, none⟩ = some (.int .i64 (a0 : Int)) := cell_of_row _ _ 0 _ _ (0, 0) hb3; have b1 : w1.cell? ⟨w.heap.size, 1, none⟩ = some (.int .i64 (a1 : Int)) := cell_of_row _ _ 1 _ _ (0, 0) hb3; have b2 : w1.cell? ⟨w.heap.size, 2, none⟩ = some (.int .i64 (a2 : Int)) := cell_of_row _ _ 2 _ _ (0, 0) hb3; have b3 : w1.cell? ⟨w.heap.size, 3, none⟩ = some (.slice A n c) := cell_of_row _ _ 3 _ _ (0, 0) hb3; have HB1 := Lib.hid hb1; have HX1 := Lib.hid hb3; clear hb1 hb3)
  have hs1 : w.heap.size + 1 ≤ w1.heap.size := by have := HB1.out.size; omega
  have HLIT := Lib.hid (heap_alloc_new w1 (.cells #[.int .i64 (a0 : Int), .int .i64 (a1 : Int), .int .i64 (a2 : Int), .int .i64 (n : Int)] 3))
  have HXL : Hid ((w1.alloc (.cells #[.int .i64 (a0 : Int), .int .i64 (a1 : Int), .int .i64 (a2 : Int), .int .i64 (n : Int)] 3)).heap[w.heap.size]? = some (.cells #[.int .i64 (a0 : Int), .int .i64 (a1 : Int), .int .i64 (a2 : Int), .slice A n c] 24)) := Lib.hid ((heap_alloc_old w1 _ (by omega)).trans HX1.out)
  have HBL : Hid (Below w.heap.size w (w1.alloc (.cells #[.int .i64 (a0 : Int), .int .i64 (a1 : Int), .int .i64 (a2 : Int), .int .i64 (n : Int)] 3))) := Lib.hid ((HB0.out.trans (HB1.out.mono (by omega))).alloc (by omega) _)
  have hW2 : (w1.alloc (.cells #[.int .i64 (a0 : Int), .int .i64 (a1 : Int), .int .i64 (a2 : Int), .int .i64 (n : Int)] 3)).heap.size = w1.heap.size + 1 := by simp
  clear b0 b1 b2 b3
  generalize hWW : w1.alloc (.cells #[.int .i64 (a0 : Int), .int .i64 (a1 : Int), .int .i64 (a2 : Int), .int .i64 (n : Int)] 3) = W1 at *
  generalize hgl : w1.heap.size = gl at *
  have HGL := Lib.hid hgl
  clear hWW hgl
  have hadd : ∀ k : Nat, (⟨gl, 0, none⟩ : Addr).add k = ⟨gl, k, none⟩ := fun k => by rw [Addr.add_lit, Nat.zero_add]
  go_loopw [24, 3] (fun iv v wr => ∃ k : Nat, iv = .int .i64 (k : Int) ∧ k ≤ 4 ∧ Hid (wr.ownsRow (gl + 1) 5 1 v (headN a0 a1 a2 n k).length ((headN a0 a1 a2 n k).map B8)) ∧ Hid (Below (gl + 1) W1 wr)) (fun iv _ _ => 4 - (intOf iv).toNat)
  case atStart => exact ⟨0, rfl, by omega, Lib.hid (World.ownsRow_nil _ _ _ _), Lib.hid (Below.refl _ _)⟩
  case round =>
    obtain ⟨k, rfl, hk, HO, HB⟩ := hrel
    by_cases hlt : k < 4
    · have hlit := (HB.out.block gl (by omega)).trans HLIT.out
      obtain ⟨x, hxd⟩ : ∃ x, x = nth4 a0 a1 a2 n k := ⟨_, rfl⟩
      have cx : wr.cell? ⟨gl, k, none⟩ = some (.int .i64 (x : Int)) := by
        rw [hxd]
        rcases k with _ | _ | _ | _ | k
        · exact cell_of_row _ _ 0 _ _ (0, 0) hlit
        · exact cell_of_row _ _ 1 _ _ (0, 0) hlit
        · exact cell_of_row _ _ 2 _ _ (0, 0) hlit
        · exact cell_of_row _ _ 3 _ _ (0, 0) hlit
        · omega
      have hx64 : x ≤ 1099511627776 := by
        rw [hxd]
        rcases k with _ | _ | _ | _ | k
        · exact h0
        · exact h1
        · exact h2
        · show n ≤ _; omega
        · omega
      have hxw : IntKind.u64.wrap (x : Int) = (x : Int) := by rw [IntKind.wrap_u64]; omega
      have C1 := Lib.hid (append_calls (gl + 1) _ (headN a0 a1 a2 n k) x wr HO.out (by have := HB.out.size; omega) (by have := headN_len a0 a1 a2 n k; omega) (by omega))
      have HSTP := Lib.hid (headN_step a0 a1 a2 n k hlt)
      rw [← hxd] at HSTP
      clear hlit hxd
      go_wp2_with (go_at_call 47; (with_reducible refine C1.out.mono ?_); rintro e w9 ⟨v9, rfl, ho9, hg9⟩; have HO9 := Lib.hid ho9; have HB9 := Lib.hid (hg9.below HB.out (by have := HB.out.size; omega) (own_block_ge HO.out)); clear ho9 hg9)
      go_roundw
      case rel => exact ⟨k + 1, by go_num, by omega, Lib.hid (by rw [HSTP.out]; exact HO9.out), HB9⟩
      case measure => simp [intOf]; omega
    · obtain rfl : k = 4 := by omega
      (try simp only [Int.cast_ofNat_Int])
      have hT4 := (HB.out.block w.heap.size (by omega)).trans HXL.out
      have b3 : wr.cell? ⟨w.heap.size, 3, none⟩ = some (.slice A n c) := cell_of_row _ _ 3 _ _ (0, 0) hT4
      clear hT4
      go_wp2_with fail
      clear b3
      have HR2 : Hid (Rows2 W1 wr (gl + 1) u3 (.slice none 0 0) (headN a0 a1 a2 n 4) []) := Lib.hid ⟨HO.out, World.ownsRow_nil _ _ _ _, fun b _ h => by simp [Value.ownBlock] at h, HB.out⟩
      clear HO HB
      generalize wr = wx at *
      go_loopw [36, 3, 4] (fun iv u v wr => ∃ k : Nat, iv = .int .i64 (k : Int) ∧ k ≤ n ∧ Hid (((L.take k).flatMap bodyE).length ≤ 24031 * k ∧ ((L.take k).flatMap idxE).length ≤ 30 * k) ∧ Hid (Rows2 W1 wr (gl + 1) u v (headN a0 a1 a2 n 4 ++ (L.take k).flatMap idxE) ((L.take k).flatMap bodyE))) (fun iv _ _ _ => n - (intOf iv).toNat)
      case atStart => exact ⟨0, rfl, Nat.zero_le _, Lib.hid (by simp), Lib.hid (by simpa using HR2.out)⟩
      case round =>
        clear HR2
        obtain ⟨k, rfl, hk, HK, HR2⟩ := hrel
        have hzr : gl + 1 ≤ wr.heap.size := by have := HR2.out.below.size; omega
        by_cases hlt : k < n
        · obtain ⟨e, hx⟩ : ∃ e, l[k]? = some e := ⟨_, List.getElem?_eq_getElem (by rw [← HN.out]; exact hlt)⟩
          have hBw : Below w.heap.size w wr := HBL.out.trans (HR2.out.below.mono (by omega))
          have HBw := Lib.hid hBw
          have HR : Hid (RdEps wr B A l) := Lib.hid (HY.out.below (hBw.mono hB))
          obtain ⟨aa, ha, hab, hc, hxl⟩ := HR.out.at_ hx
          subst ha
          have hm60 := HS.out e (List.mem_of_getElem? hx)
          have hee : L[k]? = some e.ep := by rw [HLE.out, List.getElem?_map, hx]; rfl
          have HOK := Lib.hid (rightEs_at HRE.out hee)
          have HSB := Lib.hid (flat_step bodyE L k e.ep hee)
          have HSI := Lib.hid (flat_step idxE L k e.ep hee)
          have HBL2 := Lib.hid (bodyE_len HOK.out (by show (e.l.map Ls.s).length ≤ 60; rw [List.length_map]; exact hm60))
          have HIL2 := Lib.hid (idxE_len e.ep)
          have HEP : Hid (e.ep = ⟨e.hi, e.lo, e.f, e.la, e.su, e.l.map Ls.s⟩) := Lib.hid rfl
          obtain ⟨ex, hex⟩ : ∃ ex, ex = e.ep := ⟨_, rfl⟩
          rw [← hex] at HOK HSB HSI HBL2 HIL2 HEP
          have hokn := HOKS.out e (List.mem_of_getElem? hx)
          obtain ⟨th, tl, f, la, su, el, eA, ec⟩ := e
          obtain ⟨m, hm⟩ : ∃ m, m = el.length := ⟨_, rfl⟩
          simp only at hm60 HEP hokn
          obtain ⟨t0, ht0⟩ := Int.eq_ofNat_of_zero_le hokn.hi.1
          obtain ⟨t1, ht1⟩ := Int.eq_ofNat_of_zero_le hokn.lo.1
          have ht0b := hokn.hi.2
          have ht1b := hokn.lo.2
          simp only at ht0 ht1 ht0b ht1b
          subst ht0
          subst ht1
          rw [← hm] at hm60
          have c0 := hc 0 _ rfl
          have c1 := cell_far (hc 1 _ rfl) (by omega)
          have c2 := cell_far (hc 2 _ rfl) (by omega)
          have c3 := cell_far (hc 3 _ rfl) (by omega)
          have c4 := cell_far (hc 4 _ rfl) (by omega)
          have c5 : wr.cell? ⟨(aa.add (k * 6)).block, (aa.add (k * 6)).off + 5, none⟩ = some (.slice eA m ec) := by rw [hm]; exact cell_far (hc 5 _ rfl) (by omega)
          simp only [Nat.add_zero] at c0
          simp only at c1 c2 c3 c4
          have HMN := Lib.hid hm
          have HIX : Hid (idxE ex = (Mi.put t0 ++ Mi.put t1) ++ Mi.put (bodyE ex).length) := Lib.hid (by
            unfold idxE
            rw [HEP.out]
            simp only [Int.toNat_natCast, List.append_assoc])
          have HB5 : Hid (Rows2 W1 (wr.alloc (.cells #[.int .u64 (t0 : Int), .int .u64 (t1 : Int), .int .i64 f, .int .i64 la, .bool su, .slice eA m ec] 48)) (gl + 1) u3 u4 (headN a0 a1 a2 n 4 ++ (L.take k).flatMap idxE) ((L.take k).flatMap bodyE)) := Lib.hid (HR2.out.keep ((Below.refl _ _).alloc (Nat.le_refl _) _) (by omega))
          obtain ⟨q, hq⟩ : ∃ q, q = ((L.take k).flatMap bodyE).length := ⟨_, rfl⟩
          obtain ⟨r, hrq⟩ : ∃ r, r = (bodyE ex).length := ⟨_, rfl⟩
          have hqb : q ≤ 24031 * k := by rw [hq]; exact HK.out.1
          have hrb : r ≤ 24031 := by rw [hrq]; exact HBL2.out
          have hkb : q ≤ 2883720 := by
            have : 24031 * k ≤ 24031 * 120 := Nat.mul_le_mul_left _ (by omega)
            omega
          obtain ⟨Av, cv, hv1, _, _⟩ := own_rd HB5.out.ov
          rw [← hq] at hv1
          subst hv1
          obtain ⟨sq, hsq⟩ : ∃ sq, sq = q + r := ⟨_, rfl⟩
          have hsl : ((L.take k).flatMap bodyE ++ bodyE ex).length = sq := by rw [List.length_append, ← hq, ← hrq, hsq]
          have HSL := Lib.hid hsl
          have hsub : (sq : Int) - (q : Int) = (r : Int) := by omega
          have hsub1 : IntKind.i64.wrap ((sq : Int) - (q : Int)) = (r : Int) := by rw [IntKind.wrap_i64]; omega
          have hsub2 : IntKind.u64.wrap (r : Int) = (r : Int) := by rw [IntKind.wrap_u64]; omega
          have HQ := Lib.hid hq
          have HRQ := Lib.hid hrq
          have CAB := Lib.hid (appendbody_any (t0 : Int) (t1 : Int) f la su eA el m ec B (gl + 1) (.slice Av q cv) ((L.take k).flatMap bodyE) (wr.alloc (.cells #[.int .u64 (t0 : Int), .int .u64 (t1 : Int), .int .i64 f, .int .i64 la, .bool su, .slice eA m ec] 48)) hm (hxl.keep (fun p hp => World.cell?_alloc_lt wr _ p (by have := hBw.size; omega))) (by simp; have := hBw.size; omega) (by omega) HB5.out.ov (by simp; omega) (by omega) hm60 (by rw [← HEP.out]; exact HOK.out))
          rw [← HEP.out] at CAB
          have HEO5 := Lib.hid (heap_alloc_new wr (.cells #[.int .u64 (t0 : Int), .int .u64 (t1 : Int), .int .i64 f, .int .i64 la, .bool su, .slice eA m ec] 48))
          have hol : (headN a0 a1 a2 n 4 ++ (L.take k).flatMap idxE).length ≤ 4000 := by
            rw [List.length_append]
            have h1 := headN_len a0 a1 a2 n 4
            have h2 := HK.out.2
            have h3 : 30 * k ≤ 30 * 120 := Nat.mul_le_mul_left _ (by omega)
            omega
          have HOL := Lib.hid hol
          clear hx hc hxl hm hq hrq hsq hsl hBw hol HR2
          go_wp2_with (first
            | (go_at_call 47; (with_reducible refine CLN.out.mono ?_); rintro e w9 ⟨v9, rfl, ho, hg⟩; have HR9 := Lib.hid (HR8.out.left ho hg (by omega)); clear ho hg)
            | (go_at_call 47; (with_reducible refine CLO.out.mono ?_); rintro e w8 ⟨v8, rfl, ho, hg⟩; have hE8 := (hg.grown.block _ (in_heap HE7.out) (Ne.symm (own_not HR7.out.ou HE7.out (by decide)))).trans HE7.out; have HR8 := Lib.hid (HR7.out.left ho hg (by omega)); have CLN := Lib.hid (append_calls (gl + 1) v8 _ r w8 HR8.out.ou (by have := HR8.out.below.size; omega) (by have := HOL.out; have p0 := (Mi.put_len t0).2; have p1 := (Mi.put_len t1).2; simp only [List.length_append] at *; omega) (by omega)); clear ho hg hE8)
            | (go_at_call 47; (with_reducible refine CHI.out.mono ?_); rintro e w7 ⟨v7, rfl, ho, hg⟩; have hE7 := (hg.grown.block _ (in_heap HE6.out) (Ne.symm (own_not HR6.out.ou HE6.out (by decide)))).trans HE6.out; have HE7 := Lib.hid hE7; have HR7 := Lib.hid (HR6.out.left ho hg (by omega)); have CLO := Lib.hid (append_calls (gl + 1) v7 _ t1 w7 HR7.out.ou (by have := HR7.out.below.size; omega) (by have := HOL.out; have p0 := (Mi.put_len t0).2; simp only [List.length_append] at *; omega) (by omega)); have e1 : w7.cell? ⟨wr.heap.size, 1, none⟩ = some (.int .u64 (t1 : Int)) := cell_of_row _ _ 1 _ _ (0, 0) hE7; clear ho hg hE7)
            | (go_at_call 48; (with_reducible refine CAB.out.mono ?_); rintro e w6 ⟨v6, rfl, ho, _, hg⟩; have hE6 := (hg.grown.block _ (in_heap HEO5.out) (Ne.symm (own_not HB5.out.ov HEO5.out (by decide)))).trans HEO5.out; have HE6 := Lib.hid hE6; have HR6 := Lib.hid (HB5.out.right ho hg (by omega)); obtain ⟨A6, c6, hv6, _, _⟩ := own_rd HR6.out.ov; rw [HSL.out] at hv6; subst hv6; have CHI := Lib.hid (append_calls (gl + 1) u3 _ t0 w6 HR6.out.ou (by have := HR6.out.below.size; omega) (by have := HOL.out; omega) (by omega)); have e0 : w6.cell? ⟨wr.heap.size, 0, none⟩ = some (.int .u64 (t0 : Int)) := cell_of_row _ _ 0 _ _ (0, 0) hE6; clear ho hg hE6))
          go_roundw
          case rel => exact ⟨k + 1, by go_num, by omega, Lib.hid ⟨by rw [HSB.out, List.length_append, ← HQ.out, ← HRQ.out]; omega, by rw [HSI.out, List.length_append]; have := HK.out.2; have := HIL2.out; omega⟩, Lib.hid (by rw [HSB.out, HSI.out, HIX.out, ← HRQ.out]; have := HR9.out; simpa only [List.append_assoc] using this)⟩
          case measure => simp [intOf]; omega
        · obtain rfl : k = n := by omega
          have htk : L.take k = L := List.take_of_length_le (by rw [HLN.out]; exact Nat.le_refl _)
          rw [htk] at HR2
          obtain ⟨q, hq⟩ : ∃ q, q = (L.flatMap bodyE).length := ⟨_, rfl⟩
          have HENS : Hid ((headN a0 a1 a2 k 4 ++ L.flatMap idxE) ++ L.flatMap bodyE = encBk a0 a1 a2 L) := Lib.hid (by rw [HENC.out, List.append_assoc])
          have hlen : (headN a0 a1 a2 k 4 ++ L.flatMap idxE).length + q ≤ 3000000 := by
            have h1 := HENL.out
            rw [← HENS.out, List.length_append, ← hq] at h1
            exact h1
          obtain ⟨Av, cv, hv1, _, hrd⟩ := own_rd HR2.out.ov
          rw [← hq] at hv1
          subst hv1
          have A2 := Lib.hid (fun ty => appB (ty := ty) (c := cv) HR2.out.ou hrd (by rw [← hq]; omega) hzr)
          rw [← hq] at A2
          rw [HENS.out] at A2
          have HQ := Lib.hid hq
          clear hrd hq htk
          go_wp2_with (first
            | (at_builtin; (refine wpList_app rfl (.tmp 63) (.tmp 64) _ _ rfl rfl rfl (A2.out _) ?_); rintro v4 w4 ⟨ho4, hg4⟩; have HO4 := Lib.hid ho4; have HB4 := Lib.hid (hg4.below HR2.out.below hzr (own_block_ge HR2.out.ou)); have CCA := Lib.hid (checkappend_calls (gl + 1) v4 _ w4 ho4 (by have := HB4.out.size; omega) (by have := HENL.out; omega)); clear ho4 hg4)
            | (go_at_call 49; (with_reducible refine CCA.out.mono ?_); rintro e w5 ⟨v5, rfl, ho, hg⟩; have HO5 := Lib.hid ho; have HB5 := Lib.hid (hg.below HB4.out (by have := HB4.out.size; omega) (own_block_ge HO4.out)); clear ho hg))
          go_ret
          exact ⟨_, rfl, own_mono HO5.out (by omega), HBL.out.trans (HB5.out.mono (by omega))⟩
theorem bytes_blk (nu bo ti : Int) (A : Option Addr) (l : List Le) (n c B : Nat) (w : World) (hn : n = l.length) (hy : RdEps w B A l) (hB : B ≤ w.heap.size) (hl : n ≤ 120) (hs : ∀ e ∈ l, e.l.length ≤ 60) (hok : ∀ e ∈ l, e.ok) :
    Calls Try.prog 17 #[.agg #[.int .i64 nu, .int .i64 bo, .int .i64 ti, .slice A n c]] w (BytesOf (bkBytes nu bo ti (l.map Le.ep)) w) := by
  cases hr : rightBk nu bo ti (l.map Le.ep)
  · have HR := Lib.hid (right_blk nu bo ti A l n c B (w.alloc (.cells #[.int .i64 nu, .int .i64 bo, .int .i64 ti, .slice A n c] 24)) hn (hy.below (((Below.refl w.heap.size w).alloc (Nat.le_refl _) _).mono hB)) (by simp; omega) (by omega) (fun e he => Nat.le_trans (hs e he) (by omega)))
    rw [hr] at HR
    have HE : Hid (bkBytes nu bo ti (l.map Le.ep) = []) := Lib.hid (by unfold bkBytes; rw [hr]; rfl)
    have HB0 := Lib.hid ((Below.refl w.heap.size w).alloc (Nat.le_refl _) (.cells #[.int .i64 nu, .int .i64 bo, .int .i64 ti, .slice A n c] 24))
    clear hn hy hs hok hr
    go_enter Try.func17, Try.ntmps17
    go_wp2_with (go_at_call 23; (with_reducible refine HR.out.mono ?_); rintro e w1 ⟨rfl, hb1⟩; have HB1 := Lib.hid (HB0.out.trans (hb1.mono HB0.out.size)); clear hb1)
    go_ret
    exact ⟨_, rfl, by rw [HE.out]; exact World.ownsRow_nil _ _ _ _, HB1.out⟩
  · obtain ⟨⟨h1, h2⟩, ⟨h3, h4⟩, ⟨h5, h6⟩, _⟩ := rightBk_parts hr
    obtain ⟨a0, rfl⟩ := Int.eq_ofNat_of_zero_le h1
    obtain ⟨a1, rfl⟩ := Int.eq_ofNat_of_zero_le h3
    obtain ⟨a2, rfl⟩ := Int.eq_ofNat_of_zero_le h5
    have e : bkBytes a0 a1 a2 (l.map Le.ep) = encBk a0 a1 a2 (l.map Le.ep) ++ Cm.le4 (Cm.sum (encBk a0 a1 a2 (l.map Le.ep))) := by unfold bkBytes; rw [hr]; rfl
    rw [e]
    exact bytes_nat a0 a1 a2 A l n c B w hn hy hB hl hs hok (by omega) (by omega) (by omega) hr
theorem size_blk (nu bo ti : Int) (A : Option Addr) (l : List Le) (n c B : Nat) (w : World) (hn : n = l.length) (hy : RdEps w B A l) (hB : B ≤ w.heap.size) (hl : n ≤ 120) (hs : ∀ e ∈ l, e.l.length ≤ 60) (hok : ∀ e ∈ l, e.ok) :
    Calls Try.prog 26 #[.agg #[.int .i64 nu, .int .i64 bo, .int .i64 ti, .slice A n c]] w fun e w' => e = .returned (.int .i64 ((bkBytes nu bo ti (l.map Le.ep)).length : Nat)) ∧ Below w.heap.size w w' := by
  have HR := Lib.hid (bytes_blk nu bo ti A l n c B (w.alloc (.cells #[.int .i64 nu, .int .i64 bo, .int .i64 ti, .slice A n c] 24)) hn (hy.below (((Below.refl w.heap.size w).alloc (Nat.le_refl _) _).mono hB)) (by simp; omega) hl hs hok)
  have HB0 := Lib.hid ((Below.refl w.heap.size w).alloc (Nat.le_refl _) (.cells #[.int .i64 nu, .int .i64 bo, .int .i64 ti, .slice A n c] 24))
  clear hn hy hs hok
  generalize bkBytes nu bo ti (l.map Le.ep) = K at *
  go_enter Try.func26, Try.ntmps26
  go_wp2_with (go_at_call 17; (with_reducible refine HR.out.mono ?_); rintro e w1 ⟨v1, rfl, ho, hb1⟩; obtain ⟨A1, c1, hv1, _, _⟩ := own_rd ho; subst hv1; have HB1 := Lib.hid (HB0.out.trans (hb1.mono HB0.out.size)); clear hb1 ho)
  go_ret
  exact ⟨rfl, HB1.out⟩
end Go.Proofs.Ytchcjbapbdfhkaa
