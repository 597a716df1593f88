/-
  THE FIRST LINE'S NUMBERS SCANNED BY THE PROGRAM: (*scanner).numbers with headRight.
-/
import Derived.Test.YtoncpiaboceefaaDoorFi
namespace Go.Proofs.YtoncpiaboceefaaDoor
open Go.RowKit
set_option linter.unusedVariables false

abbrev JN2 (b rb : Nat) (s : ByteArray) (ln : Int) (rt : List Int → Bool) (w0 : World) (RES : Option (List Int × List UInt8)) (l : Nat) (a : Act) (wr : World) : Prop :=
  match l with
  | 0 => ∃ (v t7 t8 t9 : Value) (u10 u11 u12 u13 u14 u15 u16 u17 u18 u19 u20 u21 u22 u23 u24 u25 u26 u27 u28 u29 u30 u31 u32 u33 u34 u35 u36 u37 u38 u39 u40 u41 u42 u43 u44 u45 u46 u47 u48 u49 u50 u51 u52 u53 u54 u55 u56 u57 u58 u59 u60 u61 u62 u63 u64 u65 u66 : Value) (ns : List Int) (p n : Nat), a = { tmps := #[.pointer (some ⟨b, 0, none⟩), .func (.func 124) #[] #[], undef, undef, .slice none 0 0, .nilIface, v, t7, t8, t9, u10, u11, u12, u13, u14, u15, u16, u17, u18, u19, u20, u21, u22, u23, u24, u25, u26, u27, u28, u29, u30, u31, u32, u33, u34, u35, u36, u37, u38, u39, u40, u41, u42, u43, u44, u45, u46, u47, u48, u49, u50, u51, u52, u53, u54, u55, u56, u57, u58, u59, u60, u61, u62, u63, u64, u65, u66], defers := [] } ∧ ScAt wr b s p ln ∧ Only b w0 wr ∧ wr.ownsRow w0.heap.size 2 1 v ns.length (valsZ ns) ∧ p ≤ s.size ∧ ns.length ≤ p ∧ SmN ns ∧ 3 * (s.size - p) + 1 ≤ n ∧ scan rt n .word ns (lef s p) = RES
  | 1 => ∃ (v : Value) (u10 u11 u12 u13 u14 u15 u16 u17 u18 u19 u20 u21 u22 u23 u24 u25 u26 u27 u28 u29 u30 u31 u32 u33 u34 u35 u36 u37 u38 u39 u40 u41 u42 u43 u44 u45 u46 u47 u48 u49 u50 u51 u52 u53 u54 u55 u56 u57 u58 u59 u60 u61 u62 u63 u64 u65 u66 : Value) (ns : List Int) (p n : Nat) (sg va : Int) (c : UInt8), a = { tmps := #[.pointer (some ⟨b, 0, none⟩), .func (.func 124) #[] #[], undef, undef, .slice none 0 0, .nilIface, v, .int .i64 sg, .int .i64 va, .int .u8 (c.toNat : Int), u10, u11, u12, u13, u14, u15, u16, u17, u18, u19, u20, u21, u22, u23, u24, u25, u26, u27, u28, u29, u30, u31, u32, u33, u34, u35, u36, u37, u38, u39, u40, u41, u42, u43, u44, u45, u46, u47, u48, u49, u50, u51, u52, u53, u54, u55, u56, u57, u58, u59, u60, u61, u62, u63, u64, u65, u66], defers := [] } ∧ ScAt wr b s p ln ∧ Only b w0 wr ∧ wr.ownsRow w0.heap.size 2 1 v ns.length (valsZ ns) ∧ p ≤ s.size ∧ ns.length ≤ p ∧ SmN ns ∧ (sg = 1 ∨ sg = -1) ∧ 0 ≤ va ∧ va ≤ 4000 ∧ 3 * (s.size - p) + 2 ≤ n ∧ ns.length < p ∧ scan rt n (.behind (sg * va) c) ns (lef s p) = RES
  | 2 => ∃ (v t7 t8 t9 : Value) (u10 u11 u12 u13 u14 u15 u16 u17 u18 u19 u20 u21 u22 u23 u24 u25 u26 u27 u28 u29 u30 u31 u32 u33 u34 u35 u36 u37 u38 u39 u40 u41 u42 u43 u44 u45 u46 u47 u48 u49 u50 u51 u52 u53 u54 u55 u56 u57 u58 u59 u60 u61 u62 u63 u64 u65 u66 : Value) (p : Nat), a = { tmps := #[.pointer (some ⟨b, 0, none⟩), .func (.func 124) #[] #[], undef, undef, .slice none 0 0, .nilIface, v, t7, t8, t9, u10, u11, u12, u13, u14, u15, u16, u17, u18, u19, u20, u21, u22, u23, u24, u25, u26, u27, u28, u29, u30, u31, u32, u33, u34, u35, u36, u37, u38, u39, u40, u41, u42, u43, u44, u45, u46, u47, u48, u49, u50, u51, u52, u53, u54, u55, u56, u57, u58, u59, u60, u61, u62, u63, u64, u65, u66], defers := [] } ∧ ScAt wr b s p ln ∧ Only b w0 wr ∧ RES = none
  | 3 => ∃ (v : Value) (u10 u11 u12 u13 u14 u15 u16 u17 u18 u19 u20 u21 u22 u23 u24 u25 u26 u27 u28 u29 u30 u31 u32 u33 u34 u35 u36 u37 u38 u39 u40 u41 u42 u43 u44 u45 u46 u47 u48 u49 u50 u51 u52 u53 u54 u55 u56 u57 u58 u59 u60 u61 u62 u63 u64 u65 u66 : Value) (ns : List Int) (p n : Nat) (sg va : Int) (c : UInt8), a = { tmps := #[.pointer (some ⟨b, 0, none⟩), .func (.func 124) #[] #[], undef, undef, .slice none 0 0, .nilIface, v, .int .i64 sg, .int .i64 va, .int .u8 (c.toNat : Int), u10, u11, u12, u13, u14, u15, u16, u17, u18, u19, u20, u21, u22, u23, u24, u25, u26, u27, u28, u29, u30, u31, u32, u33, u34, u35, u36, u37, u38, u39, u40, u41, u42, u43, u44, u45, u46, u47, u48, u49, u50, u51, u52, u53, u54, u55, u56, u57, u58, u59, u60, u61, u62, u63, u64, u65, u66], defers := [] } ∧ ScAt wr b s p ln ∧ Only b w0 wr ∧ wr.ownsRow w0.heap.size 2 1 v ns.length (valsZ ns) ∧ p ≤ s.size ∧ ns.length ≤ p ∧ SmN ns ∧ (sg = 1 ∨ sg = -1) ∧ 0 ≤ va ∧ va ≤ 4000 ∧ (48 ≤ c.toNat ∧ c.toNat ≤ 57) ∧ 3 * (s.size - p) + 3 ≤ n ∧ ns.length < p ∧ scan rt n (.digit sg va c) ns (lef s p) = RES
  | _ => False
set_option maxRecDepth 100000 in
set_option maxHeartbeats 8000000 in
theorem nu2_any (b rb : Nat) (s : ByteArray) (p0 : Nat) (ln : Int) (rt : List Int → Bool) (w0 : World) (h : ScAt w0 b s p0 ln) (hp : p0 ≤ s.size) (hs : s.size ≤ 1000000) (hln : 0 ≤ ln ∧ ln ≤ 1000000)
    (RG : Hid (∀ W v zs, Only b w0 W → W.ownsRow w0.heap.size 2 1 v zs.length (valsZ zs) → 1 ≤ zs.length → SmN zs → Calls Tryd.prog 124 #[v] W fun e w' => e = .returned (.bool (rt zs)) ∧ Below W.heap.size W w')) :
    Calls Tryd.prog 123 #[.pointer (some ⟨b, 0, none⟩), .func (.func 124) #[] #[]] w0 fun e w' => NumsPost w0 b s ln (scan rt (3 * (s.size - p0) + 1) .word [] (lef s p0)) e w' := by
  obtain ⟨i0, hi0, hz0, hz1, hz2⟩ := info_parts info2'
  have hb : b < w0.heap.size := (Array.getElem?_eq_some_iff.1 h).1
  generalize hRES : scan rt (3 * (s.size - p0) + 1) .word [] (lef s p0) = RES
  go_enter Tryd.func123, Tryd.ntmps123
  go_wp2
  refine wp_scope_zero (JN2 b rb s ln rt w0 RES) (muN b s) ?_ ?_ ?_ ?_ ?_
  · intro l a w hJ
    match l, hJ with
    | 0, _ => exact ⟨_, rfl⟩
    | 1, _ => exact ⟨_, rfl⟩
    | 2, _ => exact ⟨_, rfl⟩
    | 3, _ => exact ⟨_, rfl⟩
  · exact ⟨_, rfl⟩
  · intro l rest a wr h0 hl hJ
    match l, hJ with
    | 2, hJ =>
      obtain ⟨v, t7, t8, t9, u10, u11, u12, u13, u14, u15, u16, u17, u18, u19, u20, u21, u22, u23, u24, u25, u26, u27, u28, u29, u30, u31, u32, u33, u34, u35, u36, u37, u38, u39, u40, u41, u42, u43, u44, u45, u46, u47, u48, u49, u50, u51, u52, u53, u54, u55, u56, u57, u58, u59, u60, u61, u62, u63, u64, u65, u66, p, rfl, hS, hO, hR⟩ := hJ
      obtain rfl := Option.some.inj hl
      have RN := Lib.hid hR
      have HS := Lib.hid hS
      have HO := Lib.hid hO
      clear hl hS hO hR
      have EF := Lib.hid (fa_any b s p ln wr HS.out)
      go_wp2_with fail
      try (go_step3; go_wp2_with fail)
      refine EF.out.mono ?_
      rintro e wz ⟨rfl, rfl⟩
      have PX := Lib.hid (show NumsPost w0 b s ln RES (.returned (.tuple #[.slice none 0 0, .iface 136 (.agg #[.int .i64 ln])])) wz from .inr ⟨RN.out, rfl, ⟨_, HS.out⟩, HO.out⟩)
      clear RN HS HO
      go_wp2
      simp only [Exit.jumps]
      exact bodyPost_ret (v := .tuple #[.slice none 0 0, .iface 136 (.agg #[.int .i64 ln])]) (by simp [results, Tryd.results123, go_sem]) rfl PX.out
    | 1, hJ =>
      obtain ⟨v, u10, u11, u12, u13, u14, u15, u16, u17, u18, u19, u20, u21, u22, u23, u24, u25, u26, u27, u28, u29, u30, u31, u32, u33, u34, u35, u36, u37, u38, u39, u40, u41, u42, u43, u44, u45, u46, u47, u48, u49, u50, u51, u52, u53, u54, u55, u56, u57, u58, u59, u60, u61, u62, u63, u64, u65, u66, ns, p, n, sg, va, c, rfl, hS, hO, hW, hp', hnl0, hsm, hsg, hv0, hv1, hn, hnl, hR⟩ := hJ
      obtain rfl := Option.some.inj hl
      have hp := hp'
      have RE := Lib.hid hR
      have HS := Lib.hid hS
      have HO := Lib.hid hO
      have HW := Lib.hid hW
      have MU0 : Hid (posB wr b = p) := hS.pos
      clear hl hS hO hR hW hp'
      have hzz : IntKind.i64.wrap (sg * va) = sg * va ∧ (-4000 ≤ sg * va ∧ sg * va ≤ 4000) := by rcases hsg with rfl | rfl <;> (rw [IntKind.wrap_i64]; omega)
      obtain ⟨hzz, hX⟩ := hzz
      have SM9 : SmN (ns ++ [sg * va]) := hsm.snoc hX
      obtain ⟨m, rfl⟩ : ∃ m, n = m + 1 := ⟨n - 1, by omega⟩
      have EV : Hid (valsZ ns ++ [.int .i64 (sg * va)] = valsZ (ns ++ [sg * va])) := by show _ = _; simp [valsZ]
      have hso := HO.out.size
      go_wp2_with (first | (at_builtin; refine wpList_append_lies _ rfl (.tmp 42) (.tmp 46) 68 rfl w0.heap.size 2 i0 (.int .i64 0) 1 8 Tryd.underlying68 hi0 hz0 hz1 hz2 rfl (by decide) _ _ _ rfl (HW.out.alloc _) ⟨wr.heap.size, 0, none⟩ 1 1 [.int .i64 (sg * va)] rfl rfl (cell_one_new _ _ _) (by intro u hu; simp at hu; subst hu; rfl) (by decide) (by unfold maxLen; omega) (by omega) (by simp; omega) (wr.heap.size + 1) (by simp) ?_))
      intro g9 cap9 w9 own9 grow9 hg9 hlt9
      have B9 : Below w0.heap.size wr w9 := ((Below.refl w0.heap.size wr).alloc (by omega) _).grown grow9 (by simp; omega) (fun j hj => (HW.out.lt j hj).1)
      have HS9 : Hid (ScAt w9 b s p ln) := (B9.block b hb).trans HS.out
      have HO9 : Hid (Only b w0 w9) := HO.out.belowO B9
      rw [EV.out] at own9
      have HW9 : Hid (w9.ownsRow w0.heap.size 2 1 (.slice (some ⟨g9, 0, none⟩) (ns.length + 1) cap9) (ns ++ [sg * va]).length (valsZ (ns ++ [sg * va]))) := by rw [List.length_append]; exact own9
      clear own9 grow9 hg9 hlt9 B9 HS HO HW EV
      by_cases hc : c = 32
      · have hx : ((c.toNat : Int) == 32) = true := by rw [hc]; rfl
        have RE2 : Hid (scan rt m .word (ns ++ [sg * va]) (lef s p) = RES) := by have := RE.out; rw [scan, if_pos hc] at this; exact this
        have MJ : Hid (posB w9 b = p) := HS9.out.pos
        go_wp2
        go_step3
        first
        | exact ⟨⟨_, _, _, _, _, _, _, _, _, _, _, _, _, _, _, _, _, _, _, _, _, _, _, _, _, _, _, _, _, _, _, _, _, _, _, _, _, _, _, _, _, _, _, _, _, _, _, _, _, _, _, _, _, _, _, _, _, _, _, _, _, ns ++ [sg * va], p, m, rfl, HS9.out, HO9.out, HW9.out, hp, by simp; omega, SM9, by omega, RE2.out⟩, by show 3 * (s.size - posB w9 b) + 1 < 3 * (s.size - posB wr b) + 2; rw [MJ.out, MU0.out]; omega⟩
        | exact ⟨_, _, _, _, _, _, _, _, _, _, _, _, _, _, _, _, _, _, _, _, _, _, _, _, _, _, _, _, _, _, _, _, _, _, _, _, _, _, _, _, _, _, _, _, _, _, _, _, _, _, _, _, _, _, _, _, _, _, _, _, _, ns ++ [sg * va], p, m, rfl, HS9.out, HO9.out, HW9.out, hp, by simp; omega, SM9, by omega, RE2.out⟩
      · have hx : ((c.toNat : Int) == 32) = false := by
          have : ¬ (c.toNat : Int) = 32 := fun e => hc (UInt8.toNat_inj.1 (by show c.toNat = 32; omega))
          simpa using this
        by_cases hd : c = 10
        · have hy : ((c.toNat : Int) == 10) = true := by rw [hd]; rfl
          have RC := Lib.hid (RG.out w9 _ _ HO9.out HW9.out (by simp) SM9)
          have RY : Hid (rt (ns ++ [sg * va]) = true → RES = some (ns ++ [sg * va], lef s p)) := fun h => by have := RE.out; rw [scan, if_neg hc, if_pos ⟨hd, h⟩] at this; exact this.symm
          have RX : Hid (rt (ns ++ [sg * va]) = false → RES = none) := fun h => by have := RE.out; rw [scan, if_neg hc, if_neg (fun g => by rw [h] at g; cases g.2)] at this; exact this.symm
          generalize rt (ns ++ [sg * va]) = rb9 at *
          go_wp2_with fail
          refine RC.out.mono ?_
          rintro e w10 ⟨rfl, b10⟩
          have HS : Hid (ScAt w10 b s p ln) := HS9.out.below b10
          have HO : Hid (Only b w0 w10) := HO9.out.belowO (b10.mono HO9.out.size)
          have HW := Lib.hid (own_below HW9.out b10)
          clear b10 RC HS9 HO9 HW9
          cases rb9
          · have RN : Hid (RES = none) := RX.out (by trivial)
            clear RX RY HW
            have EF := Lib.hid (fa_any b s p ln w10 HS.out)
            go_wp2_with fail
            try (go_step3; go_wp2_with fail)
            refine EF.out.mono ?_
            rintro e wz ⟨rfl, rfl⟩
            have PX := Lib.hid (show NumsPost w0 b s ln RES (.returned (.tuple #[.slice none 0 0, .iface 136 (.agg #[.int .i64 ln])])) wz from .inr ⟨RN.out, rfl, ⟨_, HS.out⟩, HO.out⟩)
            clear RN HS HO
            go_wp2
            simp only [Exit.jumps]
            exact bodyPost_ret (v := .tuple #[.slice none 0 0, .iface 136 (.agg #[.int .i64 ln])]) (by simp [results, Tryd.results123, go_sem]) rfl PX.out
          · have RS := Lib.hid (RY.out (by trivial))
            obtain ⟨c0, c1, c2, cf, cl⟩ := cellsS3 HS.out
            have PX := Lib.hid (show NumsPost w0 b s ln RES (.returned (.tuple #[.slice (some ⟨g9, 0, none⟩) (ns.length + 1) cap9, .nilIface])) (w10.setCell ⟨b, 2, none⟩ (.int .i64 (ln + 1))) from .inl ⟨_, _, _, p, RS.out, rfl, own_only HW.out ((Only.refl b w10).setCell 2 _) hb, HS.out.line (ln + 1), rfl, hp, by simp; omega, SM9, HO.out.trans ((Only.refl b w10).setCell 2 _)⟩)
            clear RX RY RS HW HS HO
            go_wp2
            simp only [Exit.jumps]
            exact bodyPost_ret (v := .tuple #[.slice (some ⟨g9, 0, none⟩) (ns.length + 1) cap9, .nilIface]) (by simp [results, Tryd.results123, go_sem]) rfl PX.out
        · have hy : ((c.toNat : Int) == 10) = false := by
            have : ¬ (c.toNat : Int) = 10 := fun e => hd (UInt8.toNat_inj.1 (by show c.toNat = 10; omega))
            simpa using this
          have RN : Hid (RES = none) := by have := RE.out; rw [scan, if_neg hc, if_neg (fun g => hd g.1)] at this; exact this.symm
          have HS := HS9
          have HO := HO9
          clear HW9 HS9 HO9
          have EF := Lib.hid (fa_any b s p ln w9 HS.out)
          go_wp2_with fail
          try (go_step3; go_wp2_with fail)
          refine EF.out.mono ?_
          rintro e wz ⟨rfl, rfl⟩
          have PX := Lib.hid (show NumsPost w0 b s ln RES (.returned (.tuple #[.slice none 0 0, .iface 136 (.agg #[.int .i64 ln])])) wz from .inr ⟨RN.out, rfl, ⟨_, HS.out⟩, HO.out⟩)
          clear RN HS HO
          go_wp2
          simp only [Exit.jumps]
          exact bodyPost_ret (v := .tuple #[.slice none 0 0, .iface 136 (.agg #[.int .i64 ln])]) (by simp [results, Tryd.results123, go_sem]) rfl PX.out
    | 0, hJ => exact absurd rfl h0
    | 3, hJ =>
      obtain ⟨v, u10, u11, u12, u13, u14, u15, u16, u17, u18, u19, u20, u21, u22, u23, u24, u25, u26, u27, u28, u29, u30, u31, u32, u33, u34, u35, u36, u37, u38, u39, u40, u41, u42, u43, u44, u45, u46, u47, u48, u49, u50, u51, u52, u53, u54, u55, u56, u57, u58, u59, u60, u61, u62, u63, u64, u65, u66, ns, p, n, sg, va, c, rfl, hS, hO, hW, hp', hnl0, hsm, hsg, hv0, hv1, ⟨hd1', hd2'⟩, hn, hnl, hR⟩ := hJ
      obtain rfl := Option.some.inj hl
      have hp := hp'
      have hd1 : 48 ≤ (c.toNat : Int) := by omega
      have hd2 : (c.toNat : Int) ≤ 57 := by omega
      have RE := Lib.hid hR
      have HS := Lib.hid hS
      have HO := Lib.hid hO
      have HW := Lib.hid hW
      have MU0 : Hid (posB wr b = p) := hS.pos
      clear hl hS hO hR hW hp' hd1' hd2'
      obtain ⟨n, rfl⟩ : ∃ m, n = m + 1 := ⟨n - 1, by omega⟩
      by_cases hbig : 4000 < 10 * va + ((c.toNat : Int) - 48)
      · have RN : Hid (RES = none) := by have := RE.out; rw [scan, if_pos hbig] at this; exact this.symm
        go_wp2
        go_step3
        first
        | exact ⟨⟨_, _, _, _, _, _, _, _, _, _, _, _, _, _, _, _, _, _, _, _, _, _, _, _, _, _, _, _, _, _, _, _, _, _, _, _, _, _, _, _, _, _, _, _, _, _, _, _, _, _, _, _, _, _, _, _, _, _, _, _, _, p, rfl, HS.out, HO.out, RN.out⟩, by show 0 < 3 * (s.size - posB wr b) + 3; omega⟩
        | exact ⟨_, _, _, _, _, _, _, _, _, _, _, _, _, _, _, _, _, _, _, _, _, _, _, _, _, _, _, _, _, _, _, _, _, _, _, _, _, _, _, _, _, _, _, _, _, _, _, _, _, _, _, _, _, _, _, _, _, _, _, _, _, p, rfl, HS.out, HO.out, RN.out⟩
      · have RE2 : Hid (∀ x y, nxB s p = x → nxP s p = y → (if 48 ≤ x.toNat ∧ x.toNat ≤ 57 then scan rt n (.digit sg (10 * va + ((c.toNat : Int) - 48)) x) ns (lef s y) else scan rt n (.behind (sg * (10 * va + ((c.toNat : Int) - 48))) x) ns (lef s y)) = RES) := fun x y hx hy => by
          have := RE.out
          rw [scan, if_neg hbig, lef_hd, lef_tl, hx, hy] at this
          exact this
        have NX := Lib.hid (nx_any b s p ln wr HS.out hp (by omega))
        have LT := Lib.hid (nxP_lt s p)
        have LP := nxP_le s p hp
        have hbig2 : 10 * va + ((c.toNat : Int) - 48) ≤ 4000 := by omega
        have hlow : 0 ≤ 10 * va + ((c.toNat : Int) - 48) := by omega
        clear RE hbig
        generalize hva9 : 10 * va + ((c.toNat : Int) - 48) = va2 at *
        go_wp2_with fail
        refine NX.out.mono ?_
        rintro e w2 ⟨rfl, s2, o2⟩
        have HS2 := Lib.hid s2
        have HO2 := Lib.hid (HO.out.trans o2)
        have HW2 := Lib.hid (own_only HW.out o2 hb)
        clear s2 o2 NX HS HO HW hva9 hv0 hv1 hd1 hd2
        generalize hc9 : nxB s p = c2 at *
        generalize hp9 : nxP s p = p2 at *
        obtain ⟨lp1, lp2⟩ := LP
        have RE3 := Lib.hid (RE2.out c2 p2 (by trivial) (by trivial))
        clear RE2
        by_cases h48 : 48 ≤ (c2.toNat : Int)
        · by_cases h57 : (c2.toNat : Int) ≤ 57
          · have RE4 : Hid (scan rt n (.digit sg va2 c2) ns (lef s p2) = RES) := by have := RE3.out; rw [if_pos (by omega)] at this; exact this
            obtain ⟨q1, q2⟩ := LT.out (fun e => by rw [e] at h48; simp at h48)
            have MJ : Hid (posB w2 b = p2) := HS2.out.pos
            clear RE3 LT
            go_wp2
            go_step3
            first
            | exact ⟨⟨_, _, _, _, _, _, _, _, _, _, _, _, _, _, _, _, _, _, _, _, _, _, _, _, _, _, _, _, _, _, _, _, _, _, _, _, _, _, _, _, _, _, _, _, _, _, _, _, _, _, _, _, _, _, _, _, _, _, ns, p2, n, sg, va2, c2, rfl, HS2.out, HO2.out, HW2.out, lp2, by omega, hsm, hsg, hlow, hbig2, ⟨by omega, by omega⟩, by omega, by omega, RE4.out⟩, by show 3 * (s.size - posB w2 b) + 3 < 3 * (s.size - posB wr b) + 3; rw [MJ.out, MU0.out]; omega⟩
            | exact ⟨_, _, _, _, _, _, _, _, _, _, _, _, _, _, _, _, _, _, _, _, _, _, _, _, _, _, _, _, _, _, _, _, _, _, _, _, _, _, _, _, _, _, _, _, _, _, _, _, _, _, _, _, _, _, _, _, _, _, ns, p2, n, sg, va2, c2, rfl, HS2.out, HO2.out, HW2.out, lp2, by omega, hsm, hsg, hlow, hbig2, ⟨by omega, by omega⟩, by omega, by omega, RE4.out⟩
          · have RE : Hid (scan rt n (.behind (sg * va2) c2) ns (lef s p2) = RES) := by have := RE3.out; rw [if_neg (by omega)] at this; exact this
            clear RE3 LT
            have hzz : IntKind.i64.wrap (sg * va2) = sg * va2 ∧ (-4000 ≤ sg * va2 ∧ sg * va2 ≤ 4000) := by rcases hsg with rfl | rfl <;> (rw [IntKind.wrap_i64]; omega)
            obtain ⟨hzz, hX⟩ := hzz
            have SM9 : SmN (ns ++ [sg * va2]) := hsm.snoc hX
            obtain ⟨m, rfl⟩ : ∃ m, n = m + 1 := ⟨n - 1, by omega⟩
            have EV : Hid (valsZ ns ++ [.int .i64 (sg * va2)] = valsZ (ns ++ [sg * va2])) := by show _ = _; simp [valsZ]
            have hso := HO2.out.size
            go_wp2_with fail
            go_step3
            go_wp2_with (first | (at_builtin; refine wpList_append_lies _ rfl (.tmp 42) (.tmp 46) 68 rfl w0.heap.size 2 i0 (.int .i64 0) 1 8 Tryd.underlying68 hi0 hz0 hz1 hz2 rfl (by decide) _ _ _ rfl (HW2.out.alloc _) ⟨w2.heap.size, 0, none⟩ 1 1 [.int .i64 (sg * va2)] rfl rfl (cell_one_new _ _ _) (by intro u hu; simp at hu; subst hu; rfl) (by decide) (by unfold maxLen; omega) (by omega) (by simp; omega) (w2.heap.size + 1) (by simp) ?_))
            intro g9 cap9 w9 own9 grow9 hg9 hlt9
            have B9 : Below w0.heap.size w2 w9 := ((Below.refl w0.heap.size w2).alloc (by omega) _).grown grow9 (by simp; omega) (fun j hj => (HW2.out.lt j hj).1)
            have HS9 : Hid (ScAt w9 b s p2 ln) := (B9.block b hb).trans HS2.out
            have HO9 : Hid (Only b w0 w9) := HO2.out.belowO B9
            rw [EV.out] at own9
            have HW9 : Hid (w9.ownsRow w0.heap.size 2 1 (.slice (some ⟨g9, 0, none⟩) (ns.length + 1) cap9) (ns ++ [sg * va2]).length (valsZ (ns ++ [sg * va2]))) := by rw [List.length_append]; exact own9
            clear own9 grow9 hg9 hlt9 B9 HS2 HO2 HW2 EV
            by_cases hc : c2 = 32
            · have hx : ((c2.toNat : Int) == 32) = true := by rw [hc]; rfl
              have RE2 : Hid (scan rt m .word (ns ++ [sg * va2]) (lef s p2) = RES) := by have := RE.out; rw [scan, if_pos hc] at this; exact this
              have MJ : Hid (posB w9 b = p2) := HS9.out.pos
              go_wp2
              go_step3
              first
              | exact ⟨⟨_, _, _, _, _, _, _, _, _, _, _, _, _, _, _, _, _, _, _, _, _, _, _, _, _, _, _, _, _, _, _, _, _, _, _, _, _, _, _, _, _, _, _, _, _, _, _, _, _, _, _, _, _, _, _, _, _, _, _, _, _, ns ++ [sg * va2], p2, m, rfl, HS9.out, HO9.out, HW9.out, lp2, by simp; omega, SM9, by omega, RE2.out⟩, by show 3 * (s.size - posB w9 b) + 1 < 3 * (s.size - posB wr b) + 3; rw [MJ.out, MU0.out]; omega⟩
              | exact ⟨_, _, _, _, _, _, _, _, _, _, _, _, _, _, _, _, _, _, _, _, _, _, _, _, _, _, _, _, _, _, _, _, _, _, _, _, _, _, _, _, _, _, _, _, _, _, _, _, _, _, _, _, _, _, _, _, _, _, _, _, _, ns ++ [sg * va2], p2, m, rfl, HS9.out, HO9.out, HW9.out, lp2, by simp; omega, SM9, by omega, RE2.out⟩
            · have hx : ((c2.toNat : Int) == 32) = false := by
                have : ¬ (c2.toNat : Int) = 32 := fun e => hc (UInt8.toNat_inj.1 (by show c2.toNat = 32; omega))
                simpa using this
              by_cases hd : c2 = 10
              · have hy : ((c2.toNat : Int) == 10) = true := by rw [hd]; rfl
                have RC := Lib.hid (RG.out w9 _ _ HO9.out HW9.out (by simp) SM9)
                have RY : Hid (rt (ns ++ [sg * va2]) = true → RES = some (ns ++ [sg * va2], lef s p2)) := fun h => by have := RE.out; rw [scan, if_neg hc, if_pos ⟨hd, h⟩] at this; exact this.symm
                have RX : Hid (rt (ns ++ [sg * va2]) = false → RES = none) := fun h => by have := RE.out; rw [scan, if_neg hc, if_neg (fun g => by rw [h] at g; cases g.2)] at this; exact this.symm
                generalize rt (ns ++ [sg * va2]) = rb9 at *
                go_wp2_with fail
                refine RC.out.mono ?_
                rintro e w10 ⟨rfl, b10⟩
                have HS2 : Hid (ScAt w10 b s p2 ln) := HS9.out.below b10
                have HO2 : Hid (Only b w0 w10) := HO9.out.belowO (b10.mono HO9.out.size)
                have HW2 := Lib.hid (own_below HW9.out b10)
                clear b10 RC HS9 HO9 HW9
                cases rb9
                · have RN : Hid (RES = none) := RX.out (by trivial)
                  clear RX RY HW2
                  have EF := Lib.hid (fa_any b s p2 ln w10 HS2.out)
                  go_wp2_with fail
                  try (go_step3; go_wp2_with fail)
                  refine EF.out.mono ?_
                  rintro e wz ⟨rfl, rfl⟩
                  have PX := Lib.hid (show NumsPost w0 b s ln RES (.returned (.tuple #[.slice none 0 0, .iface 136 (.agg #[.int .i64 ln])])) wz from .inr ⟨RN.out, rfl, ⟨_, HS2.out⟩, HO2.out⟩)
                  clear RN HS2 HO2
                  go_wp2
                  simp only [Exit.jumps]
                  exact bodyPost_ret (v := .tuple #[.slice none 0 0, .iface 136 (.agg #[.int .i64 ln])]) (by simp [results, Tryd.results123, go_sem]) rfl PX.out
                · have RS := Lib.hid (RY.out (by trivial))
                  obtain ⟨c0, c1, c2, cf, cl⟩ := cellsS3 HS2.out
                  have PX := Lib.hid (show NumsPost w0 b s ln RES (.returned (.tuple #[.slice (some ⟨g9, 0, none⟩) (ns.length + 1) cap9, .nilIface])) (w10.setCell ⟨b, 2, none⟩ (.int .i64 (ln + 1))) from .inl ⟨_, _, _, p2, RS.out, rfl, own_only HW2.out ((Only.refl b w10).setCell 2 _) hb, HS2.out.line (ln + 1), rfl, lp2, by simp; omega, SM9, HO2.out.trans ((Only.refl b w10).setCell 2 _)⟩)
                  clear RX RY RS HW2 HS2 HO2
                  go_wp2
                  simp only [Exit.jumps]
                  exact bodyPost_ret (v := .tuple #[.slice (some ⟨g9, 0, none⟩) (ns.length + 1) cap9, .nilIface]) (by simp [results, Tryd.results123, go_sem]) rfl PX.out
              · have hy : ((c2.toNat : Int) == 10) = false := by
                  have : ¬ (c2.toNat : Int) = 10 := fun e => hd (UInt8.toNat_inj.1 (by show c2.toNat = 10; omega))
                  simpa using this
                have RN : Hid (RES = none) := by have := RE.out; rw [scan, if_neg hc, if_neg (fun g => hd g.1)] at this; exact this.symm
                have HS2 := HS9
                have HO2 := HO9
                clear HW9 HS9 HO9
                have EF := Lib.hid (fa_any b s p2 ln w9 HS2.out)
                go_wp2_with fail
                try (go_step3; go_wp2_with fail)
                refine EF.out.mono ?_
                rintro e wz ⟨rfl, rfl⟩
                have PX := Lib.hid (show NumsPost w0 b s ln RES (.returned (.tuple #[.slice none 0 0, .iface 136 (.agg #[.int .i64 ln])])) wz from .inr ⟨RN.out, rfl, ⟨_, HS2.out⟩, HO2.out⟩)
                clear RN HS2 HO2
                go_wp2
                simp only [Exit.jumps]
                exact bodyPost_ret (v := .tuple #[.slice none 0 0, .iface 136 (.agg #[.int .i64 ln])]) (by simp [results, Tryd.results123, go_sem]) rfl PX.out
        · have RE : Hid (scan rt n (.behind (sg * va2) c2) ns (lef s p2) = RES) := by have := RE3.out; rw [if_neg (by omega)] at this; exact this
          clear RE3 LT
          have hzz : IntKind.i64.wrap (sg * va2) = sg * va2 ∧ (-4000 ≤ sg * va2 ∧ sg * va2 ≤ 4000) := by rcases hsg with rfl | rfl <;> (rw [IntKind.wrap_i64]; omega)
          obtain ⟨hzz, hX⟩ := hzz
          have SM9 : SmN (ns ++ [sg * va2]) := hsm.snoc hX
          obtain ⟨m, rfl⟩ : ∃ m, n = m + 1 := ⟨n - 1, by omega⟩
          have EV : Hid (valsZ ns ++ [.int .i64 (sg * va2)] = valsZ (ns ++ [sg * va2])) := by show _ = _; simp [valsZ]
          have hso := HO2.out.size
          go_wp2_with fail
          go_step3
          go_wp2_with (first | (at_builtin; refine wpList_append_lies _ rfl (.tmp 42) (.tmp 46) 68 rfl w0.heap.size 2 i0 (.int .i64 0) 1 8 Tryd.underlying68 hi0 hz0 hz1 hz2 rfl (by decide) _ _ _ rfl (HW2.out.alloc _) ⟨w2.heap.size, 0, none⟩ 1 1 [.int .i64 (sg * va2)] rfl rfl (cell_one_new _ _ _) (by intro u hu; simp at hu; subst hu; rfl) (by decide) (by unfold maxLen; omega) (by omega) (by simp; omega) (w2.heap.size + 1) (by simp) ?_))
          intro g9 cap9 w9 own9 grow9 hg9 hlt9
          have B9 : Below w0.heap.size w2 w9 := ((Below.refl w0.heap.size w2).alloc (by omega) _).grown grow9 (by simp; omega) (fun j hj => (HW2.out.lt j hj).1)
          have HS9 : Hid (ScAt w9 b s p2 ln) := (B9.block b hb).trans HS2.out
          have HO9 : Hid (Only b w0 w9) := HO2.out.belowO B9
          rw [EV.out] at own9
          have HW9 : Hid (w9.ownsRow w0.heap.size 2 1 (.slice (some ⟨g9, 0, none⟩) (ns.length + 1) cap9) (ns ++ [sg * va2]).length (valsZ (ns ++ [sg * va2]))) := by rw [List.length_append]; exact own9
          clear own9 grow9 hg9 hlt9 B9 HS2 HO2 HW2 EV
          by_cases hc : c2 = 32
          · have hx : ((c2.toNat : Int) == 32) = true := by rw [hc]; rfl
            have RE2 : Hid (scan rt m .word (ns ++ [sg * va2]) (lef s p2) = RES) := by have := RE.out; rw [scan, if_pos hc] at this; exact this
            have MJ : Hid (posB w9 b = p2) := HS9.out.pos
            go_wp2
            go_step3
            first
            | exact ⟨⟨_, _, _, _, _, _, _, _, _, _, _, _, _, _, _, _, _, _, _, _, _, _, _, _, _, _, _, _, _, _, _, _, _, _, _, _, _, _, _, _, _, _, _, _, _, _, _, _, _, _, _, _, _, _, _, _, _, _, _, _, _, ns ++ [sg * va2], p2, m, rfl, HS9.out, HO9.out, HW9.out, lp2, by simp; omega, SM9, by omega, RE2.out⟩, by show 3 * (s.size - posB w9 b) + 1 < 3 * (s.size - posB wr b) + 3; rw [MJ.out, MU0.out]; omega⟩
            | exact ⟨_, _, _, _, _, _, _, _, _, _, _, _, _, _, _, _, _, _, _, _, _, _, _, _, _, _, _, _, _, _, _, _, _, _, _, _, _, _, _, _, _, _, _, _, _, _, _, _, _, _, _, _, _, _, _, _, _, _, _, _, _, ns ++ [sg * va2], p2, m, rfl, HS9.out, HO9.out, HW9.out, lp2, by simp; omega, SM9, by omega, RE2.out⟩
          · have hx : ((c2.toNat : Int) == 32) = false := by
              have : ¬ (c2.toNat : Int) = 32 := fun e => hc (UInt8.toNat_inj.1 (by show c2.toNat = 32; omega))
              simpa using this
            by_cases hd : c2 = 10
            · have hy : ((c2.toNat : Int) == 10) = true := by rw [hd]; rfl
              have RC := Lib.hid (RG.out w9 _ _ HO9.out HW9.out (by simp) SM9)
              have RY : Hid (rt (ns ++ [sg * va2]) = true → RES = some (ns ++ [sg * va2], lef s p2)) := fun h => by have := RE.out; rw [scan, if_neg hc, if_pos ⟨hd, h⟩] at this; exact this.symm
              have RX : Hid (rt (ns ++ [sg * va2]) = false → RES = none) := fun h => by have := RE.out; rw [scan, if_neg hc, if_neg (fun g => by rw [h] at g; cases g.2)] at this; exact this.symm
              generalize rt (ns ++ [sg * va2]) = rb9 at *
              go_wp2_with fail
              refine RC.out.mono ?_
              rintro e w10 ⟨rfl, b10⟩
              have HS2 : Hid (ScAt w10 b s p2 ln) := HS9.out.below b10
              have HO2 : Hid (Only b w0 w10) := HO9.out.belowO (b10.mono HO9.out.size)
              have HW2 := Lib.hid (own_below HW9.out b10)
              clear b10 RC HS9 HO9 HW9
              cases rb9
              · have RN : Hid (RES = none) := RX.out (by trivial)
                clear RX RY HW2
                have EF := Lib.hid (fa_any b s p2 ln w10 HS2.out)
                go_wp2_with fail
                try (go_step3; go_wp2_with fail)
                refine EF.out.mono ?_
                rintro e wz ⟨rfl, rfl⟩
                have PX := Lib.hid (show NumsPost w0 b s ln RES (.returned (.tuple #[.slice none 0 0, .iface 136 (.agg #[.int .i64 ln])])) wz from .inr ⟨RN.out, rfl, ⟨_, HS2.out⟩, HO2.out⟩)
                clear RN HS2 HO2
                go_wp2
                simp only [Exit.jumps]
                exact bodyPost_ret (v := .tuple #[.slice none 0 0, .iface 136 (.agg #[.int .i64 ln])]) (by simp [results, Tryd.results123, go_sem]) rfl PX.out
              · have RS := Lib.hid (RY.out (by trivial))
                obtain ⟨c0, c1, c2, cf, cl⟩ := cellsS3 HS2.out
                have PX := Lib.hid (show NumsPost w0 b s ln RES (.returned (.tuple #[.slice (some ⟨g9, 0, none⟩) (ns.length + 1) cap9, .nilIface])) (w10.setCell ⟨b, 2, none⟩ (.int .i64 (ln + 1))) from .inl ⟨_, _, _, p2, RS.out, rfl, own_only HW2.out ((Only.refl b w10).setCell 2 _) hb, HS2.out.line (ln + 1), rfl, lp2, by simp; omega, SM9, HO2.out.trans ((Only.refl b w10).setCell 2 _)⟩)
                clear RX RY RS HW2 HS2 HO2
                go_wp2
                simp only [Exit.jumps]
                exact bodyPost_ret (v := .tuple #[.slice (some ⟨g9, 0, none⟩) (ns.length + 1) cap9, .nilIface]) (by simp [results, Tryd.results123, go_sem]) rfl PX.out
            · have hy : ((c2.toNat : Int) == 10) = false := by
                have : ¬ (c2.toNat : Int) = 10 := fun e => hd (UInt8.toNat_inj.1 (by show c2.toNat = 10; omega))
                simpa using this
              have RN : Hid (RES = none) := by have := RE.out; rw [scan, if_neg hc, if_neg (fun g => hd g.1)] at this; exact this.symm
              have HS2 := HS9
              have HO2 := HO9
              clear HW9 HS9 HO9
              have EF := Lib.hid (fa_any b s p2 ln w9 HS2.out)
              go_wp2_with fail
              try (go_step3; go_wp2_with fail)
              refine EF.out.mono ?_
              rintro e wz ⟨rfl, rfl⟩
              have PX := Lib.hid (show NumsPost w0 b s ln RES (.returned (.tuple #[.slice none 0 0, .iface 136 (.agg #[.int .i64 ln])])) wz from .inr ⟨RN.out, rfl, ⟨_, HS2.out⟩, HO2.out⟩)
              clear RN HS2 HO2
              go_wp2
              simp only [Exit.jumps]
              exact bodyPost_ret (v := .tuple #[.slice none 0 0, .iface 136 (.agg #[.int .i64 ln])]) (by simp [results, Tryd.results123, go_sem]) rfl PX.out
  · intro X0 hX M a wr hJ hM
    obtain ⟨v, t7, t8, t9, u10, u11, u12, u13, u14, u15, u16, u17, u18, u19, u20, u21, u22, u23, u24, u25, u26, u27, u28, u29, u30, u31, u32, u33, u34, u35, u36, u37, u38, u39, u40, u41, u42, u43, u44, u45, u46, u47, u48, u49, u50, u51, u52, u53, u54, u55, u56, u57, u58, u59, u60, u61, u62, u63, u64, u65, u66, ns, p, n, rfl, hS, hO, hW, hp', hnl0, hsm, hn, hR⟩ := hJ
    injection Option.some.inj hX with _ hX2
    subst hX2
    have hp := hp'
    have hM' : 3 * (s.size - p) + 1 ≤ M := by have e := hS.pos; have hM2 : 3 * (s.size - posB wr b) + 1 ≤ M := hM; rw [e] at hM2; exact hM2
    have RE := Lib.hid hR
    have HS := Lib.hid hS
    have HO := Lib.hid hO
    have HW := Lib.hid hW
    clear hX hS hO hR hW hp' hM
    obtain ⟨n, rfl⟩ : ∃ m, n = m + 1 := ⟨n - 1, by omega⟩
    have RE2 : Hid (∀ x y, nxB s p = x → nxP s p = y → (if x = 48 then scan rt n (.behind 0 (nxB s y)) ns (lef s (nxP s y)) else if x = 45 then (if 49 ≤ (nxB s y).toNat ∧ (nxB s y).toNat ≤ 57 then scan rt n (.digit (-1) 0 (nxB s y)) ns (lef s (nxP s y)) else none) else if 49 ≤ x.toNat ∧ x.toNat ≤ 57 then scan rt n (.digit 1 0 x) ns (lef s y) else none) = RES) := fun x y hx hy => by
      have := RE.out
      rw [scan, lef_tl, lef_tl, lef_hd, lef_hd, hx, hy] at this
      exact this
    have NX := Lib.hid (nx_any b s p ln wr HS.out hp (by omega))
    have LT := Lib.hid (nxP_lt s p)
    have LP := nxP_le s p hp
    clear RE
    go_wp2_with fail
    refine NX.out.mono ?_
    rintro e w2 ⟨rfl, s2, o2⟩
    have HS1 := Lib.hid s2
    have HO1 := Lib.hid (HO.out.trans o2)
    have HW1 := Lib.hid (own_only HW.out o2 hb)
    clear s2 o2 NX HS HO HW
    generalize hc9 : nxB s p = c1 at *
    generalize hp9 : nxP s p = p1 at *
    obtain ⟨lp1, lp2⟩ := LP
    have RE3 := Lib.hid (RE2.out c1 p1 (by trivial) (by trivial))
    clear RE2
    by_cases g48 : c1 = 48
    · have hx : ((c1.toNat : Int) == 48) = true := by rw [g48]; rfl
      obtain ⟨q1, q2⟩ := LT.out (fun e => by rw [g48] at e; simp at e)
      have RE4 : Hid (scan rt n (.behind (1 * 0) (nxB s p1)) ns (lef s (nxP s p1)) = RES) := by have := RE3.out; rw [if_pos g48] at this; exact this
      clear RE3 LT
      have NX2 := Lib.hid (nx_any b s p1 ln w2 HS1.out lp2 (by omega))
      have LQ := nxP_le s p1 lp2
      go_wp2_with fail
      refine NX2.out.mono ?_
      rintro e w3 ⟨rfl, s3, o3⟩
      have HS := Lib.hid s3
      have HO := Lib.hid (HO1.out.trans o3)
      have HW := Lib.hid (own_only HW1.out o3 hb)
      clear s3 o3 NX2 HS1 HO1 HW1
      generalize hc8 : nxB s p1 = c at *
      generalize hp8 : nxP s p1 = p at *
      obtain ⟨lq1, lq2⟩ := LQ
      have MJ : Hid (posB w3 b = p) := HS.out.pos
      go_wp2
      go_step3
      first
      | exact ⟨⟨_, _, _, _, _, _, _, _, _, _, _, _, _, _, _, _, _, _, _, _, _, _, _, _, _, _, _, _, _, _, _, _, _, _, _, _, _, _, _, _, _, _, _, _, _, _, _, _, _, _, _, _, _, _, _, _, _, _, ns, p, n, 1, 0, c, rfl, HS.out, HO.out, HW.out, lq2, by omega, hsm, .inl rfl, by omega, by omega, by omega, by omega, RE4.out⟩, by show 3 * (s.size - posB w3 b) + 2 < M; rw [MJ.out]; omega⟩
      | exact ⟨_, _, _, _, _, _, _, _, _, _, _, _, _, _, _, _, _, _, _, _, _, _, _, _, _, _, _, _, _, _, _, _, _, _, _, _, _, _, _, _, _, _, _, _, _, _, _, _, _, _, _, _, _, _, _, _, _, _, ns, p, n, 1, 0, c, rfl, HS.out, HO.out, HW.out, lq2, by omega, hsm, .inl rfl, by omega, by omega, by omega, by omega, RE4.out⟩
    · have hx : ((c1.toNat : Int) == 48) = false := by
        have : ¬ (c1.toNat : Int) = 48 := fun e => g48 (UInt8.toNat_inj.1 (by show c1.toNat = 48; omega))
        simpa using this
      by_cases g45 : c1 = 45
      · have hy : ((c1.toNat : Int) == 45) = true := by rw [g45]; rfl
        obtain ⟨q1, q2⟩ := LT.out (fun e => by rw [g45] at e; simp at e)
        have RE4 : Hid ((if 49 ≤ (nxB s p1).toNat ∧ (nxB s p1).toNat ≤ 57 then scan rt n (.digit (-1) 0 (nxB s p1)) ns (lef s (nxP s p1)) else none) = RES) := by have := RE3.out; rw [if_neg g48, if_pos g45] at this; exact this
        clear RE3 LT
        have NX2 := Lib.hid (nx_any b s p1 ln w2 HS1.out lp2 (by omega))
        have LQ := nxP_le s p1 lp2
        go_wp2_with fail
        refine NX2.out.mono ?_
        rintro e w3 ⟨rfl, s3, o3⟩
        have HS := Lib.hid s3
        have HO := Lib.hid (HO1.out.trans o3)
        have HW := Lib.hid (own_only HW1.out o3 hb)
        clear s3 o3 NX2 HS1 HO1 HW1
        generalize hc8 : nxB s p1 = c at *
        generalize hp8 : nxP s p1 = p at *
        obtain ⟨lq1, lq2⟩ := LQ
        by_cases h49 : (c.toNat : Int) < 49
        · have RN : Hid (RES = none) := by have := RE4.out; rw [if_neg (by omega)] at this; exact this.symm
          go_wp2
          go_step3
          first
          | exact ⟨⟨_, _, _, _, _, _, _, _, _, _, _, _, _, _, _, _, _, _, _, _, _, _, _, _, _, _, _, _, _, _, _, _, _, _, _, _, _, _, _, _, _, _, _, _, _, _, _, _, _, _, _, _, _, _, _, _, _, _, _, _, _, _, rfl, HS.out, HO.out, RN.out⟩, by show 0 < M; omega⟩
          | exact ⟨_, _, _, _, _, _, _, _, _, _, _, _, _, _, _, _, _, _, _, _, _, _, _, _, _, _, _, _, _, _, _, _, _, _, _, _, _, _, _, _, _, _, _, _, _, _, _, _, _, _, _, _, _, _, _, _, _, _, _, _, _, _, rfl, HS.out, HO.out, RN.out⟩
        · by_cases h57 : 57 < (c.toNat : Int)
          · have RN : Hid (RES = none) := by have := RE4.out; rw [if_neg (by omega)] at this; exact this.symm
            go_wp2
            go_step3
            first
            | exact ⟨⟨_, _, _, _, _, _, _, _, _, _, _, _, _, _, _, _, _, _, _, _, _, _, _, _, _, _, _, _, _, _, _, _, _, _, _, _, _, _, _, _, _, _, _, _, _, _, _, _, _, _, _, _, _, _, _, _, _, _, _, _, _, _, rfl, HS.out, HO.out, RN.out⟩, by show 0 < M; omega⟩
            | exact ⟨_, _, _, _, _, _, _, _, _, _, _, _, _, _, _, _, _, _, _, _, _, _, _, _, _, _, _, _, _, _, _, _, _, _, _, _, _, _, _, _, _, _, _, _, _, _, _, _, _, _, _, _, _, _, _, _, _, _, _, _, _, _, rfl, HS.out, HO.out, RN.out⟩
          · have RE : Hid (scan rt n (.digit (-1) 0 c) ns (lef s p) = RES) := by have := RE4.out; rw [if_pos (by omega)] at this; exact this
            have hp := lq2
            have hnl : ns.length < p := by omega
            have hd1 : 49 ≤ (c.toNat : Int) := by omega
            have hd2 : (c.toNat : Int) ≤ 57 := by omega
            have hn : 3 * (s.size - p) + 3 ≤ n := by omega
            have hM2 : 3 * (s.size - p) + 3 ≤ M := by omega
            clear RE4 h49 h57
            go_wp2_with fail
            go_step3
            obtain ⟨n, rfl⟩ : ∃ m, n = m + 1 := ⟨n - 1, by omega⟩
            have RE2 : Hid (∀ x y, nxB s p = x → nxP s p = y → (if 48 ≤ x.toNat ∧ x.toNat ≤ 57 then scan rt n (.digit (-1) ((c.toNat : Int) - 48) x) ns (lef s y) else scan rt n (.behind (-((c.toNat : Int) - 48)) x) ns (lef s y)) = RES) := fun x y hx hy => by
              have := RE.out
              rw [scan, show (10 : Int) * 0 + ((c.toNat : Int) - 48) = (c.toNat : Int) - 48 by omega, if_neg (by omega), lef_hd, lef_tl, hx, hy] at this
              first | exact this | (rw [Int.one_mul] at this; exact this) | (rw [Int.neg_one_mul] at this; exact this)
            have NX := Lib.hid (nx_any b s p ln w3 HS.out hp (by omega))
            have LT := Lib.hid (nxP_lt s p)
            have LP := nxP_le s p hp
            have hbig2 : (c.toNat : Int) - 48 ≤ 4000 := by omega
            have hlow : 0 ≤ (c.toNat : Int) - 48 := by omega
            clear RE
            generalize hva9 : (c.toNat : Int) - 48 = va2 at *
            go_wp2_with fail
            refine NX.out.mono ?_
            rintro e w2 ⟨rfl, s2, o2⟩
            have HS2 := Lib.hid s2
            have HO2 := Lib.hid (HO.out.trans o2)
            have HW2 := Lib.hid (own_only HW.out o2 hb)
            clear s2 o2 NX HS HO HW hva9 hd1 hd2
            generalize hc9 : nxB s p = c2 at *
            generalize hp9 : nxP s p = p2 at *
            obtain ⟨lp1, lp2⟩ := LP
            have RE3 := Lib.hid (RE2.out c2 p2 (by trivial) (by trivial))
            clear RE2
            by_cases h48 : 48 ≤ (c2.toNat : Int)
            · by_cases h57 : (c2.toNat : Int) ≤ 57
              · have RE4 : Hid (scan rt n (.digit (-1) va2 c2) ns (lef s p2) = RES) := by have := RE3.out; rw [if_pos (by omega)] at this; exact this
                obtain ⟨q1, q2⟩ := LT.out (fun e => by rw [e] at h48; simp at h48)
                have MJ : Hid (posB w2 b = p2) := HS2.out.pos
                clear RE3 LT
                go_wp2
                go_step3
                first
                | exact ⟨⟨_, _, _, _, _, _, _, _, _, _, _, _, _, _, _, _, _, _, _, _, _, _, _, _, _, _, _, _, _, _, _, _, _, _, _, _, _, _, _, _, _, _, _, _, _, _, _, _, _, _, _, _, _, _, _, _, _, _, ns, p2, n, -1, va2, c2, rfl, HS2.out, HO2.out, HW2.out, lp2, by omega, hsm, by first | exact .inl rfl | exact .inr rfl, hlow, hbig2, ⟨by omega, by omega⟩, by omega, by omega, RE4.out⟩, by show 3 * (s.size - posB w2 b) + 3 < M; rw [MJ.out]; omega⟩
                | exact ⟨_, _, _, _, _, _, _, _, _, _, _, _, _, _, _, _, _, _, _, _, _, _, _, _, _, _, _, _, _, _, _, _, _, _, _, _, _, _, _, _, _, _, _, _, _, _, _, _, _, _, _, _, _, _, _, _, _, _, ns, p2, n, -1, va2, c2, rfl, HS2.out, HO2.out, HW2.out, lp2, by omega, hsm, by first | exact .inl rfl | exact .inr rfl, hlow, hbig2, ⟨by omega, by omega⟩, by omega, by omega, RE4.out⟩
              · have RE : Hid (scan rt n (.behind (-va2) c2) ns (lef s p2) = RES) := by have := RE3.out; rw [if_neg (by omega)] at this; exact this
                clear RE3 LT
                have hzz : IntKind.i64.wrap (-va2) = -va2 ∧ (-4000 ≤ -va2 ∧ -va2 ≤ 4000) := by rw [IntKind.wrap_i64]; omega
                obtain ⟨hzz, hX⟩ := hzz
                have SM9 : SmN (ns ++ [-va2]) := hsm.snoc hX
                obtain ⟨m, rfl⟩ : ∃ m, n = m + 1 := ⟨n - 1, by omega⟩
                have EV : Hid (valsZ ns ++ [.int .i64 (-va2)] = valsZ (ns ++ [-va2])) := by show _ = _; simp [valsZ]
                have hso := HO2.out.size
                go_wp2_with fail
                go_step3
                go_wp2_with (first | (at_builtin; refine wpList_append_lies _ rfl (.tmp 42) (.tmp 46) 68 rfl w0.heap.size 2 i0 (.int .i64 0) 1 8 Tryd.underlying68 hi0 hz0 hz1 hz2 rfl (by decide) _ _ _ rfl (HW2.out.alloc _) ⟨w2.heap.size, 0, none⟩ 1 1 [.int .i64 (-va2)] rfl rfl (cell_one_new _ _ _) (by intro u hu; simp at hu; subst hu; rfl) (by decide) (by unfold maxLen; omega) (by omega) (by simp; omega) (w2.heap.size + 1) (by simp) ?_))
                intro g9 cap9 w9 own9 grow9 hg9 hlt9
                have B9 : Below w0.heap.size w2 w9 := ((Below.refl w0.heap.size w2).alloc (by omega) _).grown grow9 (by simp; omega) (fun j hj => (HW2.out.lt j hj).1)
                have HS9 : Hid (ScAt w9 b s p2 ln) := (B9.block b hb).trans HS2.out
                have HO9 : Hid (Only b w0 w9) := HO2.out.belowO B9
                rw [EV.out] at own9
                have HW9 : Hid (w9.ownsRow w0.heap.size 2 1 (.slice (some ⟨g9, 0, none⟩) (ns.length + 1) cap9) (ns ++ [-va2]).length (valsZ (ns ++ [-va2]))) := by rw [List.length_append]; exact own9
                clear own9 grow9 hg9 hlt9 B9 HS2 HO2 HW2 EV
                by_cases hc : c2 = 32
                · have hx : ((c2.toNat : Int) == 32) = true := by rw [hc]; rfl
                  have RE2 : Hid (scan rt m .word (ns ++ [-va2]) (lef s p2) = RES) := by have := RE.out; rw [scan, if_pos hc] at this; exact this
                  have MJ : Hid (posB w9 b = p2) := HS9.out.pos
                  go_wp2
                  go_step3
                  first
                  | exact ⟨⟨_, _, _, _, _, _, _, _, _, _, _, _, _, _, _, _, _, _, _, _, _, _, _, _, _, _, _, _, _, _, _, _, _, _, _, _, _, _, _, _, _, _, _, _, _, _, _, _, _, _, _, _, _, _, _, _, _, _, _, _, _, ns ++ [-va2], p2, m, rfl, HS9.out, HO9.out, HW9.out, lp2, by simp; omega, SM9, by omega, RE2.out⟩, by show 3 * (s.size - posB w9 b) + 1 < M; rw [MJ.out]; omega⟩
                  | exact ⟨_, _, _, _, _, _, _, _, _, _, _, _, _, _, _, _, _, _, _, _, _, _, _, _, _, _, _, _, _, _, _, _, _, _, _, _, _, _, _, _, _, _, _, _, _, _, _, _, _, _, _, _, _, _, _, _, _, _, _, _, _, ns ++ [-va2], p2, m, rfl, HS9.out, HO9.out, HW9.out, lp2, by simp; omega, SM9, by omega, RE2.out⟩
                · have hx : ((c2.toNat : Int) == 32) = false := by
                    have : ¬ (c2.toNat : Int) = 32 := fun e => hc (UInt8.toNat_inj.1 (by show c2.toNat = 32; omega))
                    simpa using this
                  by_cases hd : c2 = 10
                  · have hy : ((c2.toNat : Int) == 10) = true := by rw [hd]; rfl
                    have RC := Lib.hid (RG.out w9 _ _ HO9.out HW9.out (by simp) SM9)
                    have RY : Hid (rt (ns ++ [-va2]) = true → RES = some (ns ++ [-va2], lef s p2)) := fun h => by have := RE.out; rw [scan, if_neg hc, if_pos ⟨hd, h⟩] at this; exact this.symm
                    have RX : Hid (rt (ns ++ [-va2]) = false → RES = none) := fun h => by have := RE.out; rw [scan, if_neg hc, if_neg (fun g => by rw [h] at g; cases g.2)] at this; exact this.symm
                    generalize rt (ns ++ [-va2]) = rb9 at *
                    go_wp2_with fail
                    refine RC.out.mono ?_
                    rintro e w10 ⟨rfl, b10⟩
                    have HS2 : Hid (ScAt w10 b s p2 ln) := HS9.out.below b10
                    have HO2 : Hid (Only b w0 w10) := HO9.out.belowO (b10.mono HO9.out.size)
                    have HW2 := Lib.hid (own_below HW9.out b10)
                    clear b10 RC HS9 HO9 HW9
                    cases rb9
                    · have RN : Hid (RES = none) := RX.out (by trivial)
                      clear RX RY HW2
                      have EF := Lib.hid (fa_any b s p2 ln w10 HS2.out)
                      go_wp2_with fail
                      try (go_step3; go_wp2_with fail)
                      refine EF.out.mono ?_
                      rintro e wz ⟨rfl, rfl⟩
                      have PX := Lib.hid (show NumsPost w0 b s ln RES (.returned (.tuple #[.slice none 0 0, .iface 136 (.agg #[.int .i64 ln])])) wz from .inr ⟨RN.out, rfl, ⟨_, HS2.out⟩, HO2.out⟩)
                      clear RN HS2 HO2
                      go_wp2
                      simp only [Exit.jumps]
                      exact bodyPost_ret (v := .tuple #[.slice none 0 0, .iface 136 (.agg #[.int .i64 ln])]) (by simp [results, Tryd.results123, go_sem]) rfl PX.out
                    · have RS := Lib.hid (RY.out (by trivial))
                      obtain ⟨c0, c1, c2, cf, cl⟩ := cellsS3 HS2.out
                      have PX := Lib.hid (show NumsPost w0 b s ln RES (.returned (.tuple #[.slice (some ⟨g9, 0, none⟩) (ns.length + 1) cap9, .nilIface])) (w10.setCell ⟨b, 2, none⟩ (.int .i64 (ln + 1))) from .inl ⟨_, _, _, p2, RS.out, rfl, own_only HW2.out ((Only.refl b w10).setCell 2 _) hb, HS2.out.line (ln + 1), rfl, lp2, by simp; omega, SM9, HO2.out.trans ((Only.refl b w10).setCell 2 _)⟩)
                      clear RX RY RS HW2 HS2 HO2
                      go_wp2
                      simp only [Exit.jumps]
                      exact bodyPost_ret (v := .tuple #[.slice (some ⟨g9, 0, none⟩) (ns.length + 1) cap9, .nilIface]) (by simp [results, Tryd.results123, go_sem]) rfl PX.out
                  · have hy : ((c2.toNat : Int) == 10) = false := by
                      have : ¬ (c2.toNat : Int) = 10 := fun e => hd (UInt8.toNat_inj.1 (by show c2.toNat = 10; omega))
                      simpa using this
                    have RN : Hid (RES = none) := by have := RE.out; rw [scan, if_neg hc, if_neg (fun g => hd g.1)] at this; exact this.symm
                    have HS2 := HS9
                    have HO2 := HO9
                    clear HW9 HS9 HO9
                    have EF := Lib.hid (fa_any b s p2 ln w9 HS2.out)
                    go_wp2_with fail
                    try (go_step3; go_wp2_with fail)
                    refine EF.out.mono ?_
                    rintro e wz ⟨rfl, rfl⟩
                    have PX := Lib.hid (show NumsPost w0 b s ln RES (.returned (.tuple #[.slice none 0 0, .iface 136 (.agg #[.int .i64 ln])])) wz from .inr ⟨RN.out, rfl, ⟨_, HS2.out⟩, HO2.out⟩)
                    clear RN HS2 HO2
                    go_wp2
                    simp only [Exit.jumps]
                    exact bodyPost_ret (v := .tuple #[.slice none 0 0, .iface 136 (.agg #[.int .i64 ln])]) (by simp [results, Tryd.results123, go_sem]) rfl PX.out
            · have RE : Hid (scan rt n (.behind (-va2) c2) ns (lef s p2) = RES) := by have := RE3.out; rw [if_neg (by omega)] at this; exact this
              clear RE3 LT
              have hzz : IntKind.i64.wrap (-va2) = -va2 ∧ (-4000 ≤ -va2 ∧ -va2 ≤ 4000) := by rw [IntKind.wrap_i64]; omega
              obtain ⟨hzz, hX⟩ := hzz
              have SM9 : SmN (ns ++ [-va2]) := hsm.snoc hX
              obtain ⟨m, rfl⟩ : ∃ m, n = m + 1 := ⟨n - 1, by omega⟩
              have EV : Hid (valsZ ns ++ [.int .i64 (-va2)] = valsZ (ns ++ [-va2])) := by show _ = _; simp [valsZ]
              have hso := HO2.out.size
              go_wp2_with fail
              go_step3
              go_wp2_with (first | (at_builtin; refine wpList_append_lies _ rfl (.tmp 42) (.tmp 46) 68 rfl w0.heap.size 2 i0 (.int .i64 0) 1 8 Tryd.underlying68 hi0 hz0 hz1 hz2 rfl (by decide) _ _ _ rfl (HW2.out.alloc _) ⟨w2.heap.size, 0, none⟩ 1 1 [.int .i64 (-va2)] rfl rfl (cell_one_new _ _ _) (by intro u hu; simp at hu; subst hu; rfl) (by decide) (by unfold maxLen; omega) (by omega) (by simp; omega) (w2.heap.size + 1) (by simp) ?_))
              intro g9 cap9 w9 own9 grow9 hg9 hlt9
              have B9 : Below w0.heap.size w2 w9 := ((Below.refl w0.heap.size w2).alloc (by omega) _).grown grow9 (by simp; omega) (fun j hj => (HW2.out.lt j hj).1)
              have HS9 : Hid (ScAt w9 b s p2 ln) := (B9.block b hb).trans HS2.out
              have HO9 : Hid (Only b w0 w9) := HO2.out.belowO B9
              rw [EV.out] at own9
              have HW9 : Hid (w9.ownsRow w0.heap.size 2 1 (.slice (some ⟨g9, 0, none⟩) (ns.length + 1) cap9) (ns ++ [-va2]).length (valsZ (ns ++ [-va2]))) := by rw [List.length_append]; exact own9
              clear own9 grow9 hg9 hlt9 B9 HS2 HO2 HW2 EV
              by_cases hc : c2 = 32
              · have hx : ((c2.toNat : Int) == 32) = true := by rw [hc]; rfl
                have RE2 : Hid (scan rt m .word (ns ++ [-va2]) (lef s p2) = RES) := by have := RE.out; rw [scan, if_pos hc] at this; exact this
                have MJ : Hid (posB w9 b = p2) := HS9.out.pos
                go_wp2
                go_step3
                first
                | exact ⟨⟨_, _, _, _, _, _, _, _, _, _, _, _, _, _, _, _, _, _, _, _, _, _, _, _, _, _, _, _, _, _, _, _, _, _, _, _, _, _, _, _, _, _, _, _, _, _, _, _, _, _, _, _, _, _, _, _, _, _, _, _, _, ns ++ [-va2], p2, m, rfl, HS9.out, HO9.out, HW9.out, lp2, by simp; omega, SM9, by omega, RE2.out⟩, by show 3 * (s.size - posB w9 b) + 1 < M; rw [MJ.out]; omega⟩
                | exact ⟨_, _, _, _, _, _, _, _, _, _, _, _, _, _, _, _, _, _, _, _, _, _, _, _, _, _, _, _, _, _, _, _, _, _, _, _, _, _, _, _, _, _, _, _, _, _, _, _, _, _, _, _, _, _, _, _, _, _, _, _, _, ns ++ [-va2], p2, m, rfl, HS9.out, HO9.out, HW9.out, lp2, by simp; omega, SM9, by omega, RE2.out⟩
              · have hx : ((c2.toNat : Int) == 32) = false := by
                  have : ¬ (c2.toNat : Int) = 32 := fun e => hc (UInt8.toNat_inj.1 (by show c2.toNat = 32; omega))
                  simpa using this
                by_cases hd : c2 = 10
                · have hy : ((c2.toNat : Int) == 10) = true := by rw [hd]; rfl
                  have RC := Lib.hid (RG.out w9 _ _ HO9.out HW9.out (by simp) SM9)
                  have RY : Hid (rt (ns ++ [-va2]) = true → RES = some (ns ++ [-va2], lef s p2)) := fun h => by have := RE.out; rw [scan, if_neg hc, if_pos ⟨hd, h⟩] at this; exact this.symm
                  have RX : Hid (rt (ns ++ [-va2]) = false → RES = none) := fun h => by have := RE.out; rw [scan, if_neg hc, if_neg (fun g => by rw [h] at g; cases g.2)] at this; exact this.symm
                  generalize rt (ns ++ [-va2]) = rb9 at *
                  go_wp2_with fail
                  refine RC.out.mono ?_
                  rintro e w10 ⟨rfl, b10⟩
                  have HS2 : Hid (ScAt w10 b s p2 ln) := HS9.out.below b10
                  have HO2 : Hid (Only b w0 w10) := HO9.out.belowO (b10.mono HO9.out.size)
                  have HW2 := Lib.hid (own_below HW9.out b10)
                  clear b10 RC HS9 HO9 HW9
                  cases rb9
                  · have RN : Hid (RES = none) := RX.out (by trivial)
                    clear RX RY HW2
                    have EF := Lib.hid (fa_any b s p2 ln w10 HS2.out)
                    go_wp2_with fail
                    try (go_step3; go_wp2_with fail)
                    refine EF.out.mono ?_
                    rintro e wz ⟨rfl, rfl⟩
                    have PX := Lib.hid (show NumsPost w0 b s ln RES (.returned (.tuple #[.slice none 0 0, .iface 136 (.agg #[.int .i64 ln])])) wz from .inr ⟨RN.out, rfl, ⟨_, HS2.out⟩, HO2.out⟩)
                    clear RN HS2 HO2
                    go_wp2
                    simp only [Exit.jumps]
                    exact bodyPost_ret (v := .tuple #[.slice none 0 0, .iface 136 (.agg #[.int .i64 ln])]) (by simp [results, Tryd.results123, go_sem]) rfl PX.out
                  · have RS := Lib.hid (RY.out (by trivial))
                    obtain ⟨c0, c1, c2, cf, cl⟩ := cellsS3 HS2.out
                    have PX := Lib.hid (show NumsPost w0 b s ln RES (.returned (.tuple #[.slice (some ⟨g9, 0, none⟩) (ns.length + 1) cap9, .nilIface])) (w10.setCell ⟨b, 2, none⟩ (.int .i64 (ln + 1))) from .inl ⟨_, _, _, p2, RS.out, rfl, own_only HW2.out ((Only.refl b w10).setCell 2 _) hb, HS2.out.line (ln + 1), rfl, lp2, by simp; omega, SM9, HO2.out.trans ((Only.refl b w10).setCell 2 _)⟩)
                    clear RX RY RS HW2 HS2 HO2
                    go_wp2
                    simp only [Exit.jumps]
                    exact bodyPost_ret (v := .tuple #[.slice (some ⟨g9, 0, none⟩) (ns.length + 1) cap9, .nilIface]) (by simp [results, Tryd.results123, go_sem]) rfl PX.out
                · have hy : ((c2.toNat : Int) == 10) = false := by
                    have : ¬ (c2.toNat : Int) = 10 := fun e => hd (UInt8.toNat_inj.1 (by show c2.toNat = 10; omega))
                    simpa using this
                  have RN : Hid (RES = none) := by have := RE.out; rw [scan, if_neg hc, if_neg (fun g => hd g.1)] at this; exact this.symm
                  have HS2 := HS9
                  have HO2 := HO9
                  clear HW9 HS9 HO9
                  have EF := Lib.hid (fa_any b s p2 ln w9 HS2.out)
                  go_wp2_with fail
                  try (go_step3; go_wp2_with fail)
                  refine EF.out.mono ?_
                  rintro e wz ⟨rfl, rfl⟩
                  have PX := Lib.hid (show NumsPost w0 b s ln RES (.returned (.tuple #[.slice none 0 0, .iface 136 (.agg #[.int .i64 ln])])) wz from .inr ⟨RN.out, rfl, ⟨_, HS2.out⟩, HO2.out⟩)
                  clear RN HS2 HO2
                  go_wp2
                  simp only [Exit.jumps]
                  exact bodyPost_ret (v := .tuple #[.slice none 0 0, .iface 136 (.agg #[.int .i64 ln])]) (by simp [results, Tryd.results123, go_sem]) rfl PX.out
      · have hy : ((c1.toNat : Int) == 45) = false := by
          have : ¬ (c1.toNat : Int) = 45 := fun e => g45 (UInt8.toNat_inj.1 (by show c1.toNat = 45; omega))
          simpa using this
        have HS := HS1
        have HO := HO1
        have HW := HW1
        clear HS1 HO1 HW1
        by_cases h49 : (c1.toNat : Int) < 49
        · have RN : Hid (RES = none) := by have := RE3.out; rw [if_neg g48, if_neg g45, if_neg (by omega)] at this; exact this.symm
          go_wp2
          go_step3
          first
          | exact ⟨⟨_, _, _, _, _, _, _, _, _, _, _, _, _, _, _, _, _, _, _, _, _, _, _, _, _, _, _, _, _, _, _, _, _, _, _, _, _, _, _, _, _, _, _, _, _, _, _, _, _, _, _, _, _, _, _, _, _, _, _, _, _, _, rfl, HS.out, HO.out, RN.out⟩, by show 0 < M; omega⟩
          | exact ⟨_, _, _, _, _, _, _, _, _, _, _, _, _, _, _, _, _, _, _, _, _, _, _, _, _, _, _, _, _, _, _, _, _, _, _, _, _, _, _, _, _, _, _, _, _, _, _, _, _, _, _, _, _, _, _, _, _, _, _, _, _, _, rfl, HS.out, HO.out, RN.out⟩
        · by_cases h57 : 57 < (c1.toNat : Int)
          · have RN : Hid (RES = none) := by have := RE3.out; rw [if_neg g48, if_neg g45, if_neg (by omega)] at this; exact this.symm
            go_wp2
            go_step3
            first
            | exact ⟨⟨_, _, _, _, _, _, _, _, _, _, _, _, _, _, _, _, _, _, _, _, _, _, _, _, _, _, _, _, _, _, _, _, _, _, _, _, _, _, _, _, _, _, _, _, _, _, _, _, _, _, _, _, _, _, _, _, _, _, _, _, _, _, rfl, HS.out, HO.out, RN.out⟩, by show 0 < M; omega⟩
            | exact ⟨_, _, _, _, _, _, _, _, _, _, _, _, _, _, _, _, _, _, _, _, _, _, _, _, _, _, _, _, _, _, _, _, _, _, _, _, _, _, _, _, _, _, _, _, _, _, _, _, _, _, _, _, _, _, _, _, _, _, _, _, _, _, rfl, HS.out, HO.out, RN.out⟩
          · have RE : Hid (scan rt n (.digit 1 0 c1) ns (lef s p1) = RES) := by have := RE3.out; rw [if_neg g48, if_neg g45, if_pos (by omega)] at this; exact this
            obtain ⟨q1, q2⟩ := LT.out (fun e => by rw [e] at h49; simp at h49)
            clear RE3 LT
            have hp := lp2
            have hnl : ns.length < p1 := by omega
            have hd1 : 49 ≤ (c1.toNat : Int) := by omega
            have hd2 : (c1.toNat : Int) ≤ 57 := by omega
            have hn : 3 * (s.size - p1) + 3 ≤ n := by omega
            have hM2 : 3 * (s.size - p1) + 3 ≤ M := by omega
            clear h49 h57 hc9 hp9
            generalize c1 = c at *
            generalize p1 = p at *
            go_wp2_with fail
            go_step3
            obtain ⟨n, rfl⟩ : ∃ m, n = m + 1 := ⟨n - 1, by omega⟩
            have RE2 : Hid (∀ x y, nxB s p = x → nxP s p = y → (if 48 ≤ x.toNat ∧ x.toNat ≤ 57 then scan rt n (.digit (1) ((c.toNat : Int) - 48) x) ns (lef s y) else scan rt n (.behind ((c.toNat : Int) - 48) x) ns (lef s y)) = RES) := fun x y hx hy => by
              have := RE.out
              rw [scan, show (10 : Int) * 0 + ((c.toNat : Int) - 48) = (c.toNat : Int) - 48 by omega, if_neg (by omega), lef_hd, lef_tl, hx, hy] at this
              first | exact this | (rw [Int.one_mul] at this; exact this) | (rw [Int.neg_one_mul] at this; exact this)
            have NX := Lib.hid (nx_any b s p ln w2 HS.out hp (by omega))
            have LT := Lib.hid (nxP_lt s p)
            have LP := nxP_le s p hp
            have hbig2 : (c.toNat : Int) - 48 ≤ 4000 := by omega
            have hlow : 0 ≤ (c.toNat : Int) - 48 := by omega
            clear RE
            generalize hva9 : (c.toNat : Int) - 48 = va2 at *
            go_wp2_with fail
            refine NX.out.mono ?_
            rintro e w4 ⟨rfl, s2, o2⟩
            have HS2 := Lib.hid s2
            have HO2 := Lib.hid (HO.out.trans o2)
            have HW2 := Lib.hid (own_only HW.out o2 hb)
            clear s2 o2 NX HS HO HW hva9 hd1 hd2
            generalize hc9 : nxB s p = c2 at *
            generalize hp9 : nxP s p = p2 at *
            obtain ⟨lp1, lp2⟩ := LP
            have RE3 := Lib.hid (RE2.out c2 p2 (by trivial) (by trivial))
            clear RE2
            by_cases h48 : 48 ≤ (c2.toNat : Int)
            · by_cases h57 : (c2.toNat : Int) ≤ 57
              · have RE4 : Hid (scan rt n (.digit (1) va2 c2) ns (lef s p2) = RES) := by have := RE3.out; rw [if_pos (by omega)] at this; exact this
                obtain ⟨q1, q2⟩ := LT.out (fun e => by rw [e] at h48; simp at h48)
                have MJ : Hid (posB w4 b = p2) := HS2.out.pos
                clear RE3 LT
                go_wp2
                go_step3
                first
                | exact ⟨⟨_, _, _, _, _, _, _, _, _, _, _, _, _, _, _, _, _, _, _, _, _, _, _, _, _, _, _, _, _, _, _, _, _, _, _, _, _, _, _, _, _, _, _, _, _, _, _, _, _, _, _, _, _, _, _, _, _, _, ns, p2, n, 1, va2, c2, rfl, HS2.out, HO2.out, HW2.out, lp2, by omega, hsm, by first | exact .inl rfl | exact .inr rfl, hlow, hbig2, ⟨by omega, by omega⟩, by omega, by omega, RE4.out⟩, by show 3 * (s.size - posB w4 b) + 3 < M; rw [MJ.out]; omega⟩
                | exact ⟨_, _, _, _, _, _, _, _, _, _, _, _, _, _, _, _, _, _, _, _, _, _, _, _, _, _, _, _, _, _, _, _, _, _, _, _, _, _, _, _, _, _, _, _, _, _, _, _, _, _, _, _, _, _, _, _, _, _, ns, p2, n, 1, va2, c2, rfl, HS2.out, HO2.out, HW2.out, lp2, by omega, hsm, by first | exact .inl rfl | exact .inr rfl, hlow, hbig2, ⟨by omega, by omega⟩, by omega, by omega, RE4.out⟩
              · have RE : Hid (scan rt n (.behind (va2) c2) ns (lef s p2) = RES) := by have := RE3.out; rw [if_neg (by omega)] at this; exact this
                clear RE3 LT
                have hzz : IntKind.i64.wrap va2 = va2 ∧ (-4000 ≤ va2 ∧ va2 ≤ 4000) := by rw [IntKind.wrap_i64]; omega
                obtain ⟨hzz, hX⟩ := hzz
                have SM9 : SmN (ns ++ [va2]) := hsm.snoc hX
                obtain ⟨m, rfl⟩ : ∃ m, n = m + 1 := ⟨n - 1, by omega⟩
                have EV : Hid (valsZ ns ++ [.int .i64 (va2)] = valsZ (ns ++ [va2])) := by show _ = _; simp [valsZ]
                have hso := HO2.out.size
                go_wp2_with fail
                go_step3
                go_wp2_with (first | (at_builtin; refine wpList_append_lies _ rfl (.tmp 42) (.tmp 46) 68 rfl w0.heap.size 2 i0 (.int .i64 0) 1 8 Tryd.underlying68 hi0 hz0 hz1 hz2 rfl (by decide) _ _ _ rfl (HW2.out.alloc _) ⟨w4.heap.size, 0, none⟩ 1 1 [.int .i64 (va2)] rfl rfl (cell_one_new _ _ _) (by intro u hu; simp at hu; subst hu; rfl) (by decide) (by unfold maxLen; omega) (by omega) (by simp; omega) (w4.heap.size + 1) (by simp) ?_))
                intro g9 cap9 w9 own9 grow9 hg9 hlt9
                have B9 : Below w0.heap.size w4 w9 := ((Below.refl w0.heap.size w4).alloc (by omega) _).grown grow9 (by simp; omega) (fun j hj => (HW2.out.lt j hj).1)
                have HS9 : Hid (ScAt w9 b s p2 ln) := (B9.block b hb).trans HS2.out
                have HO9 : Hid (Only b w0 w9) := HO2.out.belowO B9
                rw [EV.out] at own9
                have HW9 : Hid (w9.ownsRow w0.heap.size 2 1 (.slice (some ⟨g9, 0, none⟩) (ns.length + 1) cap9) (ns ++ [va2]).length (valsZ (ns ++ [va2]))) := by rw [List.length_append]; exact own9
                clear own9 grow9 hg9 hlt9 B9 HS2 HO2 HW2 EV
                by_cases hc : c2 = 32
                · have hx : ((c2.toNat : Int) == 32) = true := by rw [hc]; rfl
                  have RE2 : Hid (scan rt m .word (ns ++ [va2]) (lef s p2) = RES) := by have := RE.out; rw [scan, if_pos hc] at this; exact this
                  have MJ : Hid (posB w9 b = p2) := HS9.out.pos
                  go_wp2
                  go_step3
                  first
                  | exact ⟨⟨_, _, _, _, _, _, _, _, _, _, _, _, _, _, _, _, _, _, _, _, _, _, _, _, _, _, _, _, _, _, _, _, _, _, _, _, _, _, _, _, _, _, _, _, _, _, _, _, _, _, _, _, _, _, _, _, _, _, _, _, _, ns ++ [va2], p2, m, rfl, HS9.out, HO9.out, HW9.out, lp2, by simp; omega, SM9, by omega, RE2.out⟩, by show 3 * (s.size - posB w9 b) + 1 < M; rw [MJ.out]; omega⟩
                  | exact ⟨_, _, _, _, _, _, _, _, _, _, _, _, _, _, _, _, _, _, _, _, _, _, _, _, _, _, _, _, _, _, _, _, _, _, _, _, _, _, _, _, _, _, _, _, _, _, _, _, _, _, _, _, _, _, _, _, _, _, _, _, _, ns ++ [va2], p2, m, rfl, HS9.out, HO9.out, HW9.out, lp2, by simp; omega, SM9, by omega, RE2.out⟩
                · have hx : ((c2.toNat : Int) == 32) = false := by
                    have : ¬ (c2.toNat : Int) = 32 := fun e => hc (UInt8.toNat_inj.1 (by show c2.toNat = 32; omega))
                    simpa using this
                  by_cases hd : c2 = 10
                  · have hy : ((c2.toNat : Int) == 10) = true := by rw [hd]; rfl
                    have RC := Lib.hid (RG.out w9 _ _ HO9.out HW9.out (by simp) SM9)
                    have RY : Hid (rt (ns ++ [va2]) = true → RES = some (ns ++ [va2], lef s p2)) := fun h => by have := RE.out; rw [scan, if_neg hc, if_pos ⟨hd, h⟩] at this; exact this.symm
                    have RX : Hid (rt (ns ++ [va2]) = false → RES = none) := fun h => by have := RE.out; rw [scan, if_neg hc, if_neg (fun g => by rw [h] at g; cases g.2)] at this; exact this.symm
                    generalize rt (ns ++ [va2]) = rb9 at *
                    go_wp2_with fail
                    refine RC.out.mono ?_
                    rintro e w10 ⟨rfl, b10⟩
                    have HS2 : Hid (ScAt w10 b s p2 ln) := HS9.out.below b10
                    have HO2 : Hid (Only b w0 w10) := HO9.out.belowO (b10.mono HO9.out.size)
                    have HW2 := Lib.hid (own_below HW9.out b10)
                    clear b10 RC HS9 HO9 HW9
                    cases rb9
                    · have RN : Hid (RES = none) := RX.out (by trivial)
                      clear RX RY HW2
                      have EF := Lib.hid (fa_any b s p2 ln w10 HS2.out)
                      go_wp2_with fail
                      try (go_step3; go_wp2_with fail)
                      refine EF.out.mono ?_
                      rintro e wz ⟨rfl, rfl⟩
                      have PX := Lib.hid (show NumsPost w0 b s ln RES (.returned (.tuple #[.slice none 0 0, .iface 136 (.agg #[.int .i64 ln])])) wz from .inr ⟨RN.out, rfl, ⟨_, HS2.out⟩, HO2.out⟩)
                      clear RN HS2 HO2
                      go_wp2
                      simp only [Exit.jumps]
                      exact bodyPost_ret (v := .tuple #[.slice none 0 0, .iface 136 (.agg #[.int .i64 ln])]) (by simp [results, Tryd.results123, go_sem]) rfl PX.out
                    · have RS := Lib.hid (RY.out (by trivial))
                      obtain ⟨c0, c1, c2, cf, cl⟩ := cellsS3 HS2.out
                      have PX := Lib.hid (show NumsPost w0 b s ln RES (.returned (.tuple #[.slice (some ⟨g9, 0, none⟩) (ns.length + 1) cap9, .nilIface])) (w10.setCell ⟨b, 2, none⟩ (.int .i64 (ln + 1))) from .inl ⟨_, _, _, p2, RS.out, rfl, own_only HW2.out ((Only.refl b w10).setCell 2 _) hb, HS2.out.line (ln + 1), rfl, lp2, by simp; omega, SM9, HO2.out.trans ((Only.refl b w10).setCell 2 _)⟩)
                      clear RX RY RS HW2 HS2 HO2
                      go_wp2
                      simp only [Exit.jumps]
                      exact bodyPost_ret (v := .tuple #[.slice (some ⟨g9, 0, none⟩) (ns.length + 1) cap9, .nilIface]) (by simp [results, Tryd.results123, go_sem]) rfl PX.out
                  · have hy : ((c2.toNat : Int) == 10) = false := by
                      have : ¬ (c2.toNat : Int) = 10 := fun e => hd (UInt8.toNat_inj.1 (by show c2.toNat = 10; omega))
                      simpa using this
                    have RN : Hid (RES = none) := by have := RE.out; rw [scan, if_neg hc, if_neg (fun g => hd g.1)] at this; exact this.symm
                    have HS2 := HS9
                    have HO2 := HO9
                    clear HW9 HS9 HO9
                    have EF := Lib.hid (fa_any b s p2 ln w9 HS2.out)
                    go_wp2_with fail
                    try (go_step3; go_wp2_with fail)
                    refine EF.out.mono ?_
                    rintro e wz ⟨rfl, rfl⟩
                    have PX := Lib.hid (show NumsPost w0 b s ln RES (.returned (.tuple #[.slice none 0 0, .iface 136 (.agg #[.int .i64 ln])])) wz from .inr ⟨RN.out, rfl, ⟨_, HS2.out⟩, HO2.out⟩)
                    clear RN HS2 HO2
                    go_wp2
                    simp only [Exit.jumps]
                    exact bodyPost_ret (v := .tuple #[.slice none 0 0, .iface 136 (.agg #[.int .i64 ln])]) (by simp [results, Tryd.results123, go_sem]) rfl PX.out
            · have RE : Hid (scan rt n (.behind (va2) c2) ns (lef s p2) = RES) := by have := RE3.out; rw [if_neg (by omega)] at this; exact this
              clear RE3 LT
              have hzz : IntKind.i64.wrap va2 = va2 ∧ (-4000 ≤ va2 ∧ va2 ≤ 4000) := by rw [IntKind.wrap_i64]; omega
              obtain ⟨hzz, hX⟩ := hzz
              have SM9 : SmN (ns ++ [va2]) := hsm.snoc hX
              obtain ⟨m, rfl⟩ : ∃ m, n = m + 1 := ⟨n - 1, by omega⟩
              have EV : Hid (valsZ ns ++ [.int .i64 (va2)] = valsZ (ns ++ [va2])) := by show _ = _; simp [valsZ]
              have hso := HO2.out.size
              go_wp2_with fail
              go_step3
              go_wp2_with (first | (at_builtin; refine wpList_append_lies _ rfl (.tmp 42) (.tmp 46) 68 rfl w0.heap.size 2 i0 (.int .i64 0) 1 8 Tryd.underlying68 hi0 hz0 hz1 hz2 rfl (by decide) _ _ _ rfl (HW2.out.alloc _) ⟨w4.heap.size, 0, none⟩ 1 1 [.int .i64 (va2)] rfl rfl (cell_one_new _ _ _) (by intro u hu; simp at hu; subst hu; rfl) (by decide) (by unfold maxLen; omega) (by omega) (by simp; omega) (w4.heap.size + 1) (by simp) ?_))
              intro g9 cap9 w9 own9 grow9 hg9 hlt9
              have B9 : Below w0.heap.size w4 w9 := ((Below.refl w0.heap.size w4).alloc (by omega) _).grown grow9 (by simp; omega) (fun j hj => (HW2.out.lt j hj).1)
              have HS9 : Hid (ScAt w9 b s p2 ln) := (B9.block b hb).trans HS2.out
              have HO9 : Hid (Only b w0 w9) := HO2.out.belowO B9
              rw [EV.out] at own9
              have HW9 : Hid (w9.ownsRow w0.heap.size 2 1 (.slice (some ⟨g9, 0, none⟩) (ns.length + 1) cap9) (ns ++ [va2]).length (valsZ (ns ++ [va2]))) := by rw [List.length_append]; exact own9
              clear own9 grow9 hg9 hlt9 B9 HS2 HO2 HW2 EV
              by_cases hc : c2 = 32
              · have hx : ((c2.toNat : Int) == 32) = true := by rw [hc]; rfl
                have RE2 : Hid (scan rt m .word (ns ++ [va2]) (lef s p2) = RES) := by have := RE.out; rw [scan, if_pos hc] at this; exact this
                have MJ : Hid (posB w9 b = p2) := HS9.out.pos
                go_wp2
                go_step3
                first
                | exact ⟨⟨_, _, _, _, _, _, _, _, _, _, _, _, _, _, _, _, _, _, _, _, _, _, _, _, _, _, _, _, _, _, _, _, _, _, _, _, _, _, _, _, _, _, _, _, _, _, _, _, _, _, _, _, _, _, _, _, _, _, _, _, _, ns ++ [va2], p2, m, rfl, HS9.out, HO9.out, HW9.out, lp2, by simp; omega, SM9, by omega, RE2.out⟩, by show 3 * (s.size - posB w9 b) + 1 < M; rw [MJ.out]; omega⟩
                | exact ⟨_, _, _, _, _, _, _, _, _, _, _, _, _, _, _, _, _, _, _, _, _, _, _, _, _, _, _, _, _, _, _, _, _, _, _, _, _, _, _, _, _, _, _, _, _, _, _, _, _, _, _, _, _, _, _, _, _, _, _, _, _, ns ++ [va2], p2, m, rfl, HS9.out, HO9.out, HW9.out, lp2, by simp; omega, SM9, by omega, RE2.out⟩
              · have hx : ((c2.toNat : Int) == 32) = false := by
                  have : ¬ (c2.toNat : Int) = 32 := fun e => hc (UInt8.toNat_inj.1 (by show c2.toNat = 32; omega))
                  simpa using this
                by_cases hd : c2 = 10
                · have hy : ((c2.toNat : Int) == 10) = true := by rw [hd]; rfl
                  have RC := Lib.hid (RG.out w9 _ _ HO9.out HW9.out (by simp) SM9)
                  have RY : Hid (rt (ns ++ [va2]) = true → RES = some (ns ++ [va2], lef s p2)) := fun h => by have := RE.out; rw [scan, if_neg hc, if_pos ⟨hd, h⟩] at this; exact this.symm
                  have RX : Hid (rt (ns ++ [va2]) = false → RES = none) := fun h => by have := RE.out; rw [scan, if_neg hc, if_neg (fun g => by rw [h] at g; cases g.2)] at this; exact this.symm
                  generalize rt (ns ++ [va2]) = rb9 at *
                  go_wp2_with fail
                  refine RC.out.mono ?_
                  rintro e w10 ⟨rfl, b10⟩
                  have HS2 : Hid (ScAt w10 b s p2 ln) := HS9.out.below b10
                  have HO2 : Hid (Only b w0 w10) := HO9.out.belowO (b10.mono HO9.out.size)
                  have HW2 := Lib.hid (own_below HW9.out b10)
                  clear b10 RC HS9 HO9 HW9
                  cases rb9
                  · have RN : Hid (RES = none) := RX.out (by trivial)
                    clear RX RY HW2
                    have EF := Lib.hid (fa_any b s p2 ln w10 HS2.out)
                    go_wp2_with fail
                    try (go_step3; go_wp2_with fail)
                    refine EF.out.mono ?_
                    rintro e wz ⟨rfl, rfl⟩
                    have PX := Lib.hid (show NumsPost w0 b s ln RES (.returned (.tuple #[.slice none 0 0, .iface 136 (.agg #[.int .i64 ln])])) wz from .inr ⟨RN.out, rfl, ⟨_, HS2.out⟩, HO2.out⟩)
                    clear RN HS2 HO2
                    go_wp2
                    simp only [Exit.jumps]
                    exact bodyPost_ret (v := .tuple #[.slice none 0 0, .iface 136 (.agg #[.int .i64 ln])]) (by simp [results, Tryd.results123, go_sem]) rfl PX.out
                  · have RS := Lib.hid (RY.out (by trivial))
                    obtain ⟨c0, c1, c2, cf, cl⟩ := cellsS3 HS2.out
                    have PX := Lib.hid (show NumsPost w0 b s ln RES (.returned (.tuple #[.slice (some ⟨g9, 0, none⟩) (ns.length + 1) cap9, .nilIface])) (w10.setCell ⟨b, 2, none⟩ (.int .i64 (ln + 1))) from .inl ⟨_, _, _, p2, RS.out, rfl, own_only HW2.out ((Only.refl b w10).setCell 2 _) hb, HS2.out.line (ln + 1), rfl, lp2, by simp; omega, SM9, HO2.out.trans ((Only.refl b w10).setCell 2 _)⟩)
                    clear RX RY RS HW2 HS2 HO2
                    go_wp2
                    simp only [Exit.jumps]
                    exact bodyPost_ret (v := .tuple #[.slice (some ⟨g9, 0, none⟩) (ns.length + 1) cap9, .nilIface]) (by simp [results, Tryd.results123, go_sem]) rfl PX.out
                · have hy : ((c2.toNat : Int) == 10) = false := by
                    have : ¬ (c2.toNat : Int) = 10 := fun e => hd (UInt8.toNat_inj.1 (by show c2.toNat = 10; omega))
                    simpa using this
                  have RN : Hid (RES = none) := by have := RE.out; rw [scan, if_neg hc, if_neg (fun g => hd g.1)] at this; exact this.symm
                  have HS2 := HS9
                  have HO2 := HO9
                  clear HW9 HS9 HO9
                  have EF := Lib.hid (fa_any b s p2 ln w9 HS2.out)
                  go_wp2_with fail
                  try (go_step3; go_wp2_with fail)
                  refine EF.out.mono ?_
                  rintro e wz ⟨rfl, rfl⟩
                  have PX := Lib.hid (show NumsPost w0 b s ln RES (.returned (.tuple #[.slice none 0 0, .iface 136 (.agg #[.int .i64 ln])])) wz from .inr ⟨RN.out, rfl, ⟨_, HS2.out⟩, HO2.out⟩)
                  clear RN HS2 HO2
                  go_wp2
                  simp only [Exit.jumps]
                  exact bodyPost_ret (v := .tuple #[.slice none 0 0, .iface 136 (.agg #[.int .i64 ln])]) (by simp [results, Tryd.results123, go_sem]) rfl PX.out
  · intro PZ
    go_wp2
    go_step3
    rename_i hK
    refine hK _ _ (PZ _ rfl _ _ ?_)
    exact ⟨.slice none 0 0, .int .i64 0, .int .i64 0, .int .u8 0, _, _, _, _, _, _, _, _, _, _, _, _, _, _, _, _, _, _, _, _, _, _, _, _, _, _, _, _, _, _, _, _, _, _, _, _, _, _, _, _, _, _, _, _, _, _, _, _, _, _, _, _, _, _, _, _, _, [], p0, _, rfl, h, Only.refl _ _, ⟨rfl, .inl ⟨rfl, rfl⟩⟩, hp, Nat.zero_le _, (fun z hz => by cases hz), Nat.le_refl _, hRES⟩

end Go.Proofs.YtoncpiaboceefaaDoor
