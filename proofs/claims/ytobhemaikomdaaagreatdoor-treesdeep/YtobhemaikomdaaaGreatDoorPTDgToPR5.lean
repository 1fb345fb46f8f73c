import Derived.Test.YtobhemaikomdaaaGreatDoorPTD3ToTSm
import Derived.Test.YtobhemaikomdaaaGreatDoorPTW3ToRegX
import Derived.Test.YtobhemaikomdaaaGreatDoorPBBaseToGRow
import Derived.Shelf.Strings.Builder1
import Derived.Test.YtobhemaikomdaaaGreatDoorPTC3ToTC4
import Derived.Test.YtobhemaikomdaaaGreatDoorPGT0ToGT6
import Derived.Test.YtobhemaikomdaaaGreatDoorPTCkToTCl
import Derived.Test.YtobhemaikomdaaaGreatDoorPTCn
namespace Go.Proofs.YtobhemaikomdaaaGreatDoor
set_option linter.unusedVariables false
open Go.RowKit
theorem samP_list : ∀ (l m : List TV), l.length = m.length -> (∀ i (h : i < l.length) (h' : i < m.length), (preT l[i]).map sgV = (preT m[i]).map sgV) -> (preL l).map sgV = (preL m).map sgV
 | [], [], _, _ => rfl
 | [], _ :: _, h, _ => by simp at h
 | _ :: _, [], h, _ => by simp at h
 | x :: l, y :: m, h, hs => by
  have e1 := hs 0 (by simp) (by simp)
  have e2 := samP_list l m (by simpa using h) (fun i h1 h2 => hs (i + 1) (by simpa using h1) (by simpa using h2))
  simp only [List.getElem_cons_zero] at e1
  have c : ∀ (a : TV) (l : List TV), preL (a :: l) = preT a ++ preL l := fun a l => by simp [preL]
  rw [c, c, List.map_append, List.map_append, e1, e2]
theorem sam_pre (a : TV) : ∀ b, samV a b -> (preT a).map sgV = (preT b).map sgV := by
 induction a using TV.ind with
 | _ a ih =>
  intro b h
  obtain ⟨h1, h2⟩ := (samV_iff a b).1 h
  rw [preT_eq, preT_eq, List.map_cons, List.map_cons, h1, samP_list a.kids b.kids (sgV_len h1) fun i hi hi' => ih _ (List.getElem_mem hi) _ (h2 i hi hi')]
def nmT (g : GV) (t : TV) : List UInt8 := (g.ts.getD t.kind.toNat ByteArray.empty).data.toList
def nmN (g : GV) (t : TV) : List UInt8 := (g.ns.getD (g.ps.getD t.prod.toNat .none).left.toNat ByteArray.empty).data.toList
def hdP (g : GV) (t : TV) : List UInt8 := if t.prod = -1 then nmT g t else 40 :: nmN g t
def enP (t : TV) : List UInt8 := if t.prod = -1 then [] else [41]
def txF (g : GV) : Nat -> TV -> List UInt8
 | 0, _ => []
 | n + 1, t => hdP g t ++ ((t.kids.flatMap fun k => 32 :: txF g n k) ++ enP t)
def txT (g : GV) (t : TV) : List UInt8 := txF g (tsz t) t
def txL (g : GV) (l : List TV) : List UInt8 := l.flatMap fun k => 32 :: txT g k
theorem txF_any (g : GV) : ∀ (n m : Nat) (t : TV), tsz t <= n -> tsz t <= m -> txF g n t = txF g m t
 | 0, _, t, h, _ => by have := tsz_pos t; omega
 | _ + 1, 0, t, _, h => by have := tsz_pos t; omega
 | n + 1, m + 1, t, h, h' => by
  rw [txF, txF]
  congr 2
  exact fm_congr _ fun k hk => by rw [txF_any g n m k (by have := kid_lt hk; omega) (by have := kid_lt hk; omega)]
theorem txT_eq (g : GV) (t : TV) : txT g t = hdP g t ++ (txL g t.kids ++ enP t) := by
 obtain ⟨n, hn⟩ : ∃ n, tsz t = n + 1 := ⟨tsz t - 1, by have := tsz_pos t; omega⟩
 unfold txT txL
 rw [hn, txF]
 congr 2
 exact fm_congr _ fun k hk => by rw [txF_any g _ _ k (by have := kid_lt hk; omega) (Nat.le_refl _)]; rfl
theorem txL_cons (g : GV) (k : TV) (l : List TV) : txL g (k :: l) = 32 :: txT g k ++ txL g l := by simp [txL]
def evX (g : GV) (x : EV) : List UInt8 := if x.en = true then 32 :: hdP g x.t else enP x.t
def exL (g : GV) (D : List EV) : List UInt8 := D.flatMap (evX g)
theorem exL_app (g : GV) (D R : List EV) : exL g (D ++ R) = exL g D ++ exL g R := by simp [exL]
theorem exL_in (g : GV) (p q : Nat) (t : TV) : exL g [⟨true, p, q, t⟩] = 32 :: hdP g t := by simp [exL, evX]
theorem exL_out (g : GV) (p q : Nat) (t : TV) : exL g [⟨false, p, q, t⟩] = enP t := by simp [exL, evX]
theorem exL_kids (g : GV) (b o : Nat) : ∀ (i : Nat) (l : List TV), (∀ k ∈ l, ∀ p q, exL g (evT p q k) = 32 :: txT g k) -> exL g (evL (kidF b o i l)) = txL g l
 | _, [], _ => rfl
 | i, k :: l, h => by
  rw [kidF, evL_cons, exL_app, h k List.mem_cons_self, exL_kids g b o (i + 1) l (fun k' hk => h k' (List.mem_cons_of_mem _ hk)), txL_cons]
theorem evT_text (g : GV) (t : TV) : ∀ p q, exL g (evT p q t) = 32 :: txT g t := by
 induction t using TV.ind with
 | _ t ih =>
  intro p q
  rw [evT_eq, <- List.singleton_append, exL_app, exL_app, exL_in, exL_out, txT_eq]
  unfold kidsA
  rw [exL_kids g _ _ _ _ ih]
  simp
theorem getD_size {l : List ByteArray} (h : ∀ s ∈ l, s.size <= 32) (n : Nat) : (l.getD n ByteArray.empty).data.toList.length <= 32 := by
 rw [Array.length_toList]
 by_cases hn : n < l.length
 ·have e : l.getD n ByteArray.empty = l[n] := by simp [List.getD, hn]
  rw [e]
  exact h _ (List.getElem_mem hn)
 ·have e : l.getD n ByteArray.empty = ByteArray.empty := by simp [List.getD, hn]
  rw [e]
  decide
theorem evX_len {g : GV} (h1 : ∀ s ∈ g.ts, s.size <= 32) (h2 : ∀ s ∈ g.ns, s.size <= 32) (x : EV) : (evX g x).length <= 34 := by
 have a1 : (nmT g x.t).length <= 32 := getD_size h1 _
 have a2 : (nmN g x.t).length <= 32 := getD_size h2 _
 unfold evX hdP enP
 by_cases e : x.en = true
 ·rw [if_pos e]
  by_cases p : x.t.prod = -1
  ·rw [if_pos p]; simp only [List.length_cons]; omega
  ·rw [if_neg p]; simp only [List.length_cons]; omega
 ·rw [if_neg e]
  by_cases p : x.t.prod = -1
  ·rw [if_pos p]; simp
  ·rw [if_neg p]; simp
theorem exL_len {g : GV} (h1 : ∀ s ∈ g.ts, s.size <= 32) (h2 : ∀ s ∈ g.ns, s.size <= 32) : ∀ D : List EV, (exL g D).length <= 34 * D.length
 | [] => by simp [exL]
 | x :: D => by
  have a := evX_len h1 h2 x
  have b := exL_len h1 h2 D
  have e : exL g (x :: D) = evX g x ++ exL g D := by simp [exL]
  rw [e, List.length_append, List.length_cons]
  omega
open Go.RowKit Go.Shelf
def bldRenP : Ren := ⟨fun x => if x = 240 then 107 else if x = 276 then 131 else if x = 166 then 83 else if x = 167 then 0 else if x = 169 then 85 else x,
 fun x => if x = 37 then 46 else if x = 70 then 135 else if x = 72 then 137 else if x = 75 then 139 else if x = 77 then 141 else if x = 78 then 0 else if x = 80 then 142 else if x = 127 then 173 else if x = 164 then 193 else if x = 165 then 194 else x, fun x => x⟩
theorem bld240P : Lays.n240 Tryz.prog bldRenP where
 mixed := by kernel_rfl
 f240 := by kernel_rfl
 f276 := by kernel_rfl
 t0 := by kernel_rfl
 a0 := fun _ => by kernel_rfl
 z0 := fun _ => by kernel_rfl
 v0 := fun _ => by kernel_rfl
 t4 := by kernel_rfl
 a4 := fun _ => by kernel_rfl
 z4 := fun _ => by kernel_rfl
 v4 := fun _ => by kernel_rfl
 t9 := by kernel_rfl
 a9 := fun _ => by kernel_rfl
 z9 := fun _ => by kernel_rfl
 v9 := fun _ => by kernel_rfl
 t20 := by kernel_rfl
 a20 := fun _ => by kernel_rfl
 z20 := fun _ => by kernel_rfl
 v20 := fun _ => by kernel_rfl
 t70 := by kernel_rfl
 a70 := fun _ => by kernel_rfl
 z70 := fun _ => by kernel_rfl
 v70 := fun _ => by kernel_rfl
 t72 := by kernel_rfl
 a72 := fun _ => by kernel_rfl
 z72 := fun _ => by kernel_rfl
 v72 := fun _ => by kernel_rfl
 t164 := by kernel_rfl
 a164 := fun _ => by kernel_rfl
 z164 := fun _ => by kernel_rfl
 v164 := fun _ => by kernel_rfl
theorem bld169P : Lays.n169 Tryz.prog bldRenP where
 mixed := by kernel_rfl
 f169 := by kernel_rfl
 t0 := by kernel_rfl
 a0 := fun _ => by kernel_rfl
 z0 := fun _ => by kernel_rfl
 v0 := fun _ => by kernel_rfl
 t3 := by kernel_rfl
 a3 := fun _ => by kernel_rfl
 z3 := fun _ => by kernel_rfl
 v3 := fun _ => by kernel_rfl
 t9 := by kernel_rfl
 a9 := fun _ => by kernel_rfl
 z9 := fun _ => by kernel_rfl
 v9 := fun _ => by kernel_rfl
 t37 := by kernel_rfl
 a37 := fun _ => by kernel_rfl
 z37 := fun _ => by kernel_rfl
 v37 := fun _ => by kernel_rfl
 t70 := by kernel_rfl
 a70 := fun _ => by kernel_rfl
 z70 := fun _ => by kernel_rfl
 v70 := fun _ => by kernel_rfl
 t72 := by kernel_rfl
 a72 := fun _ => by kernel_rfl
 z72 := fun _ => by kernel_rfl
 v72 := fun _ => by kernel_rfl
 t127 := by kernel_rfl
 a127 := fun _ => by kernel_rfl
 z127 := fun _ => by kernel_rfl
 v127 := fun _ => by kernel_rfl
theorem bldXP : Builder.Extra Tryz.prog bldRenP where
 sizeBuilder := by kernel_rfl
 liesBuilder := by kernel_rfl
 t5 := by kernel_rfl
 a5 := fun _ => by kernel_rfl
 z5 := fun _ => by kernel_rfl
 v5 := fun _ => by kernel_rfl
 infoByte := by kernel_rfl
 cellsByte := by kernel_rfl
 sizeByte := by kernel_rfl
 neB5 := by decide
abbrev IsP (B b : Nat) (l : List UInt8) (w : World) : Prop := Lib.IsBuilder 137 5 B b (Lib.byteCells l) w
theorem IsP.later {B b : Nat} {l : List UInt8} {w w' : World} (h : IsP B b l w) (hb : Below w.heap.size w w') : IsP B b l w' := by
 have key : ∀ p, Lib.BuilderAt 137 5 B b p (Lib.byteCells l) w -> Lib.BuilderAt 137 5 B b p (Lib.byteCells l) w' := by
  rintro p ⟨h1, v, h2, h3, h4⟩
  refine ⟨h1, v, (hb.block b (lt_of_block h2)).trans h2, ⟨h3.1, ?_⟩, h4⟩
  rcases h3.2 with q | ⟨g, cap, cur, rfl, q1, q2, q3⟩
  ·exact .inl q
  ·exact .inr ⟨g, cap, cur, rfl, q1, (hb.block g (lt_of_block q2)).trans q2, q3⟩
 rcases h with h | h
 ·exact .inl (key _ h)
 ·exact .inr (key _ h)
theorem bstr_P {B b : Nat} {l : List UInt8} {w : World} (h : IsP B b l w) (hBw : B <= w.heap.size) :
  Calls Tryz.prog 85 #[.pointer (some ⟨b, 0, none⟩)] w fun e w' => e = .returned (.string ⟨l.toArray⟩) /\ Below B w w' := Any.Builder_String_any bld169P bldXP B b l w h hBw
structure KpP (b : Nat) (w w' : World) : Prop where
 size : w.heap.size <= w'.heap.size
 blk : ∀ k o, w.heap[k]? = some o -> k ≠ b -> (∀ cs fz, o ≠ .cells cs 5 fz) -> w'.heap[k]? = some o
theorem KpP.refl (b : Nat) (w : World) : KpP b w w := ⟨Nat.le_refl _, fun _ _ h _ _ => h⟩
theorem KpP.trans {b : Nat} {w w1 w2 : World} (h : KpP b w w1) (h' : KpP b w1 w2) : KpP b w w2 := ⟨Nat.le_trans h.size h'.size, fun k o a c d => h'.blk k o (h.blk k o a c d) c d⟩
theorem KpP.cell (b o : Nat) (v : Value) (w : World) : KpP b w (w.setCell ⟨b, o, none⟩ v) := ⟨by simp [World.setCell], fun k _ h hk _ => (Below.heap_setCell _ _ _ _ hk).trans h⟩
theorem ckBl {B b : Nat} {l : List UInt8} {w : World} (h : IsP B b l w) : Calls Tryz.prog 107 #[.pointer (some ⟨b, 0, none⟩)] w fun e w' => e = .returned (.tuple #[]) /\ Lib.BuilderAt 137 5 B b (.pointer (some ⟨b, 0, none⟩)) (Lib.byteCells l) w' /\ Below B w w' /\ KpP b w w' := by
 rcases h with h | h
 ·exact (Any.Builder_copyCheck_fresh bld240P bldXP.toX72 b w h.cell0 h.shape h.frozen0).mono fun e w' ⟨e1, e2⟩ => by
   subst e2
   exact ⟨e1, h.used _, (Below.refl B w).setCell (p := ⟨b, 0, none⟩) h.1 _, KpP.cell _ _ _ _⟩
 ·exact (Any.Builder_copyCheck_used bld240P bldXP.toX72 b w h.cell0).mono fun e w' ⟨e1, e2⟩ => by
   subst e2
   exact ⟨e1, h, Below.refl B _, KpP.refl _ _⟩
theorem byteInfoP : ∃ i, Tryz.prog.info? 5 = some i /\ i.zero = some (.int .u8 0) /\ i.size = 1 /\ i.bytes = 1 := info_parts bldXP.infoByte
set_option linter.unusedSimpArgs false in
set_option maxRecDepth 100000 in
set_option maxHeartbeats 2000000 in
theorem wstr_K {B b : Nat} {l : List UInt8} {w : World} (s : ByteArray) (h : IsP B b l w) (hlen : l.length <= 100000000000) (hs : s.size <= 1000000000) (hBw : B <= w.heap.size) :
  Calls Tryz.prog 83 #[.pointer (some ⟨b, 0, none⟩), .string s] w fun e w' => e = .returned (.tuple #[.int .i64 s.size, .nilIface]) /\ IsP B b (l ++ s.data.toList) w' /\ Below B w w' /\ KpP b w w' := by
 obtain ⟨bi, i1, i2, i3, i4⟩ := byteInfoP
 have CC : Hid (Calls Tryz.prog 107 #[.pointer (some ⟨b, 0, none⟩)] w fun e w' => e = .returned (.tuple #[]) /\ Lib.BuilderAt 137 5 B b (.pointer (some ⟨b, 0, none⟩)) (Lib.byteCells l) w' /\ Below B w w' /\ KpP b w w') := ckBl h
 have BI : Hid (Tryz.prog.info? 5 = some bi /\ bi.zero = some (.int .u8 0) /\ bi.size = 1 /\ bi.bytes = 1) := ⟨i1, i2, i3, i4⟩
 have HB : Hid (B <= w.heap.size) := hBw
 have HL : Hid (l.length + s.size <= 140737488355328 - 4096) := by show _ <= _; omega
 clear h i1 i2 i3 i4 hBw
 go_enter Tryz.func83, Tryz.ntmps83
 go_upto_region 2 with (go_at_call 107; refine CC.out.mono ?_; rintro e w1 ⟨rfl, hb1, hB1, hk1⟩; have H1 : Hid (Lib.BuilderAt 137 5 B b (.pointer (some ⟨b, 0, none⟩)) (Lib.byteCells l) w1 /\ Below B w w1 /\ KpP b w w1) := ⟨hb1, hB1, hk1⟩; clear hb1 hB1 hk1)
 obtain ⟨hB, v, hv, hown, hne⟩ := H1.out.1
 have c1 : w1.cell? ⟨b, 1, none⟩ = some v := (cellq_any hv).trans rfl
 have HV : Hid (B <= b /\ w1.heap[b]? = some (.cells #[.pointer (some ⟨b, 0, none⟩), v] 137) /\ w1.ownsRow B 5 1 v (Lib.byteCells l).length (Lib.byteCells l) /\ v.ownBlock ≠ some b) := ⟨hB, hv, hown, hne⟩
 clear hB hv hown hne
 go_wp2_with (at_builtin; refine Lib.wpList_append_own_string _ rfl _ _ 46 9 rfl B 5 bi Tryz.underlying46 Tryz.underlying9 BI.out.1 BI.out.2.1 BI.out.2.2.1 BI.out.2.2.2 v _ _ rfl HV.out.2.2.1 s rfl (by have := HL.out; rw [Lib.byteCells_length]; unfold maxLen; omega) (by have := HL.out; rw [Lib.byteCells_length]; omega) (by have := H1.out.2.1.size; have := HB.out; omega) ?_; intro v' w2 hown' hgrow _; have G2 : Hid (w2.ownsRow B 5 1 v' ((Lib.byteCells l).length + s.size) (Lib.byteCells l ++ Lib.strCells s) /\ w1.grownBy w2 v.ownBlock) := ⟨hown', hgrow⟩; have hb2 : w2.heap[b]? = some (.cells #[.pointer (some ⟨b, 0, none⟩), v] 137) := ((hgrow.block b (lt_of_block HV.out.2.1) (fun e => HV.out.2.2.2 e.symm)).trans HV.out.2.1); have d1 : w2.cell? ⟨b, 1, none⟩ = some v := ((cellq_any hb2).trans rfl); have f1 : w2.frozen? ⟨b, 1, none⟩ = false := (by simp [World.frozen?, hb2]); have HB2 : Hid (w2.heap[b]? = some (.cells #[.pointer (some ⟨b, 0, none⟩), v] 137)) := hb2; clear hown' hgrow hb2; obtain ⟨ao, n', cap, rfl⟩ : ∃ ao n' cap, v' = .slice ao n' cap := (by rcases G2.out.1.2 with ⟨q, _⟩ | ⟨g, cap, cur, q, _⟩ <;> exact ⟨_, _, _, q⟩))
 go_ret2
 refine ⟨rfl, .inr ?_, ?_, ?_⟩
 ·have e : Lib.byteCells (l ++ s.data.toList) = Lib.byteCells l ++ Lib.strCells s := by simp [Lib.byteCells, Lib.strCells]
  rw [e]
  exact Lib.BuilderAt.put HV.out.1 HB2.out (bs' := Lib.byteCells l ++ Lib.strCells s) (by have := G2.out.1; simpa [Lib.strCells_length] using this) (by decide)
 ·exact (H1.out.2.1.grown G2.out.2 (by have := H1.out.2.1.size; have := HB.out; omega) (fun k hk => (HV.out.2.2.1.lt k hk).1)).setCell (p := ⟨b, 1, none⟩) HV.out.1 _
 ·refine H1.out.2.2.trans (KpP.trans ⟨G2.out.2.size, fun k o hk hn ht => ?_⟩ (KpP.cell _ _ _ _))
  refine (G2.out.2.block k (lt_of_block hk) fun q => ?_).trans hk
  rcases HV.out.2.2.1.2 with ⟨r, _⟩ | ⟨g, cap, cur, r, _, h2, _⟩
  ·rw [r] at q; simp [Value.ownBlock] at q
  ·rw [r] at q
   simp [Value.ownBlock] at q
   subst q
   rw [h2] at hk
   exact ht _ _ (Option.some.inj hk).symm
def PlOk (g : GV) (t : TV) : Prop := (t.prod = -1 /\ 0 <= t.kind /\ t.kind < g.ts.length) ∨ (0 <= t.prod /\ t.prod < g.ps.length /\ 0 <= (g.ps.getD t.prod.toNat .none).left /\ (g.ps.getD t.prod.toNat .none).left < g.ns.length)
structure PTs (w0 : World) (g : GV) (p0 q0 : Nat) (l : List UInt8) (w : World) : Prop where
 bel : Below w0.heap.size w0 w
 gb : w.heap[w0.heap.size]? = some (gBox g)
 pb : w.heap[w0.heap.size + 1]? = some (ptBox (some ⟨p0, q0, none⟩))
 tx : IsP w0.heap.size (w0.heap.size + 2) l w
theorem PTs.write {w0 : World} {g : GV} {p0 q0 : Nat} {l l' : List UInt8} {w w' : World} (h : PTs w0 g p0 q0 l w) (hi : IsP w0.heap.size (w0.heap.size + 2) l' w') (hb : Below w0.heap.size w w') (hk : KpP (w0.heap.size + 2) w w') : PTs w0 g p0 q0 l' w' /\ OnStp w0.heap.size w w' := by
 refine ⟨⟨h.bel.trans hb, hk.blk _ _ h.gb (by omega) (fun cs fz e => ?_), hk.blk _ _ h.pb (by omega) (fun cs fz e => ?_), hi⟩, hk.size, fun j o hj hN hs => hk.blk j o hj (fun e => ?_) (fun cs fz e => ?_)⟩
 ·simp at e
 ·simp at e
 ·subst e
  rcases h.tx with ⟨_, v, hv, _⟩ | ⟨_, v, hv, _⟩ <;> (rw [hv] at hj; cases hj; exact not_stp (by decide) hs)
 ·subst e
  exact not_stp (by decide) hs
theorem PTs.still {w0 : World} {g : GV} {p0 q0 : Nat} {l : List UInt8} {w w' : World} (h : PTs w0 g p0 q0 l w) (hn : NoStp w0.heap.size w w') : PTs w0 g p0 q0 l w' := by
 have key : ∀ x, Lib.BuilderAt 137 5 w0.heap.size (w0.heap.size + 2) x (Lib.byteCells l) w -> Lib.BuilderAt 137 5 w0.heap.size (w0.heap.size + 2) x (Lib.byteCells l) w' := by
  rintro x ⟨h1, v, h2, h3, h4⟩
  refine ⟨h1, v, hn.keep _ _ h2 (fun ⟨_, s⟩ => not_stp (by decide) s), ⟨h3.1, ?_⟩, h4⟩
  rcases h3.2 with q | ⟨gg, cap, cur, rfl, q1, q2, q3⟩
  ·exact .inl q
  ·exact .inr ⟨gg, cap, cur, rfl, q1, hn.keep _ _ q2 (fun ⟨_, s⟩ => not_stp (by decide) s), q3⟩
 refine ⟨hn.bel h.bel, hn.keep _ _ h.gb (fun ⟨_, s⟩ => not_stp (by decide) s), hn.keep _ _ h.pb (fun ⟨_, s⟩ => not_stp (by decide) s), ?_⟩
 rcases h.tx with q | q
 ·exact .inl (key _ q)
 ·exact .inr (key _ q)
theorem ent_print1 : EntW 82 := fun _ _ => by kernel_rfl
theorem ent_print2 : EntW 84 := fun _ _ => by kernel_rfl
theorem ptP {w : World} {b : Nat} {a : Addr} (h : w.heap[b]? = some (ptBox (some a))) : w.cell? ⟨b, 0, none⟩ = some (.pointer (some a)) := (cellq_any h).trans rfl
theorem ts_cells {w : World} {g : GV} (h : GAt 140737488355328 w g) {k : Nat} (hk : k < g.ts.length) : ∃ b off, g.ta = some ⟨b, off, none⟩ /\ w.cell? ⟨b, off + k, none⟩ = some (.string (g.ts.getD k ByteArray.empty)) := by
 obtain ⟨b, off, e, _, hc⟩ := h.t (by intro e; rw [e] at hk; simp at hk)
 exact ⟨b, off, e, hc k hk⟩
theorem ns_cells {w : World} {g : GV} (h : GAt 140737488355328 w g) {k : Nat} (hk : k < g.ns.length) : ∃ b off, g.na = some ⟨b, off, none⟩ /\ w.cell? ⟨b, off + k, none⟩ = some (.string (g.ns.getD k ByteArray.empty)) := by
 obtain ⟨b, off, e, _, hc⟩ := h.n_ (by intro e; rw [e] at hk; simp at hk)
 exact ⟨b, off, e, hc k hk⟩
theorem run_neq_sameP (a : Addr) (w : World) : (binOp .neq 64 (.pointer (some a)) (.pointer (some a))).run Tryz.prog w = .ok (.bool false) w := by
 obtain ⟨j, hj, -⟩ : ∃ j, Tryz.prog.info? 32 = some j /\ j.size = 4 := Option.map_eq_some_iff.1 (by kernel_rfl)
 exact Lib.run_neq_ptr_same w a Tryz.underlying64 hj
theorem same_otherP {a b : Addr} {w : World} {ca cb : Array Value} {ta tb : TypeId} {fa : Nat × Nat} (hne : a.block ≠ b.block) (ha : w.heap[a.block]? = some (.cells ca ta fa)) (hb : w.heap[b.block]? = some (.cells cb tb (0, 0))) (hz : cb.size ≠ 0) (hy : ca.size ≠ 0) :
  (sameAddr a b).run Tryz.prog w = .ok false w := by
 obtain ⟨lo, hi⟩ := fa
 obtain ⟨na, hna⟩ : ∃ n, ca.size = n + 1 := ⟨ca.size - 1, by omega⟩
 simp [sameAddr, hne, World.frozen?, ha, hb, noView, viewAt, World.shape?, mayBeOne, stringish, hna]
theorem run_neq_otherP {a b : Addr} {w : World} {ca cb : Array Value} {ta tb : TypeId} {fa : Nat × Nat} (hne : a.block ≠ b.block) (ha : w.heap[a.block]? = some (.cells ca ta fa)) (hb : w.heap[b.block]? = some (.cells cb tb (0, 0))) (hz : cb.size ≠ 0) (hy : ca.size ≠ 0) :
  (binOp .neq 64 (.pointer (some a)) (.pointer (some b))).run Tryz.prog w = .ok (.bool true) w := by
 obtain ⟨j, hj, hjz⟩ : ∃ j, Tryz.prog.info? 32 = some j /\ j.size ≠ 0 := by
  have h : (Tryz.prog.info? 32).map (·.size) = some 4 := by kernel_rfl
  obtain ⟨j, hj, hs⟩ := Option.map_eq_some_iff.1 h
  exact ⟨j, hj, by omega⟩
 have hp := Tryz.underlying64
 have h : ∀ d : Nat, (Op.equalIn (d + 1) 64 (.pointer (some a)) (.pointer (some b))).run Tryz.prog w = .ok false w := fun d => by
  simp [Op.equalIn, run_underlying hp, sizeOf, typeInfo, hj, hjz, same_otherP hne ha hb hz hy]
 simp only [binOp]
 simp [Op.equal, Op.maxDepth, h 9999]
theorem cells_of {w : World} {a : Addr} {v : Value} (h : w.cell? a = some v) : ∃ c t f, w.heap[a.block]? = some (.cells c t f) /\ c.size ≠ 0 := by
 unfold World.cell? at h
 split at h
 ·rename_i c t f e
  split at h
  ·cases h
  ·refine ⟨c, t, f, e, fun z => ?_⟩
   rw [Array.getElem?_eq_none (by omega)] at h
   cases h
 ·cases h
theorem cat40 (s : ByteArray) : ((⟨#[40]⟩ : ByteArray) ++ s).data.toList = 40 :: s.data.toList := by simp
set_option linter.unusedSimpArgs false in
set_option maxRecDepth 100000 in
set_option maxHeartbeats 4000000 in
theorem print1_W (w0 : World) (g : GV) (p0 q0 p q : Nat) (t : TV) (l : List UInt8) (w : World) (h : PTs w0 g p0 q0 l w) (hg : GAt 140737488355328 w0 g) (ht : TBx w0 p q t) (hk : PlOk g t) (fst : Bool) (hf : (fst = true -> p = p0 /\ q = q0) /\ (fst = false -> p ≠ p0)) (hr : ∃ t0, w0.heap[p0]? = some (tBox t0)) (R : List UInt8) (hR : R = l ++ ((if fst = true then [] else [32]) ++ hdP g t)) (hl : l.length <= 10000000000) (hn1 : ∀ s ∈ g.ts, s.size <= 32) (hn2 : ∀ s ∈ g.ns, s.size <= 32) :
  Calls Tryz.prog 82 #[.pointer (some ⟨p, q, none⟩), .pointer (some ⟨w0.heap.size + 1, 0, none⟩), .pointer (some ⟨w0.heap.size + 2, 0, none⟩), .pointer (some ⟨w0.heap.size, 0, none⟩)] w fun e w' => e = .returned (.bool true) /\ OnStp w0.heap.size w w' /\ PTs w0 g p0 q0 R w' := by
 have HT : Hid (∀ w', Below w0.heap.size w0 w' -> TBx w' p q t) := fun w' hb => ht.later hb
 have HGA : Hid (∀ w', Below w0.heap.size w0 w' -> GAt 140737488355328 w' g) := fun w' hb => hg.later hb
 have CI : Hid (∀ w', Below w0.heap.size w0 w' -> Calls Tryz.prog 21 #[.pointer (some ⟨p, q, none⟩)] w' fun e w'' => e = .returned (.bool (t.prod == -1)) /\ w'' = w') := fun w' hb => isLeaf_W p q t w' (ht.later hb)
 have WS : Hid (∀ (w' : World) (l' : List UInt8) (s : ByteArray), PTs w0 g p0 q0 l' w' -> OnStp w0.heap.size w w' -> l'.length <= 10000000001 -> s.size <= 1000 -> Calls Tryz.prog 83 #[.pointer (some ⟨w0.heap.size + 2, 0, none⟩), .string s] w' fun e w'' => (∃ v, e = .returned v) /\ PTs w0 g p0 q0 (l' ++ s.data.toList) w'' /\ OnStp w0.heap.size w w'') := fun w' l' s h1 h2 h3 h4 => (wstr_K s h1.tx (by omega) (by omega) h1.bel.size).mono fun e w'' ⟨e1, e2, e3, e4⟩ => ⟨⟨_, e1⟩, (h1.write e2 e3 e4).1, h2.trans (h1.write e2 e3 e4).2⟩
 have H0 : Hid (PTs w0 g p0 q0 l w /\ OnStp w0.heap.size w w) := ⟨h, OnStp.refl _ _⟩
 have pb := ptP h.pb
 have HL : Hid (l.length <= 10000000000) := hl
 have HN : Hid ((∀ s ∈ g.ts, s.size <= 32) /\ ∀ s ∈ g.ns, s.size <= 32) := ⟨hn1, hn2⟩
 clear h hg ht hl hn1 hn2
 cases fst with
 | true =>
  obtain ⟨rfl, rfl⟩ := hf.1 rfl
  clear hf
  obtain ⟨L1, hL1⟩ : ∃ L1, l = L1 := ⟨_, rfl⟩
  have HE : Hid (R = L1 ++ hdP g t) := by show _ = _; rw [hR, hL1]; simp
  have HL1 : Hid (L1.length <= 10000000001) := by have := HL.out; show _ <= _; rw [<- hL1]; omega
  clear hR
  rcases hk with ⟨hp, hk0, hk1⟩ | ⟨hp, hp1, hq⟩
  ·have t1 : (t.prod == -1) = true := by simpa using hp
   rw [t1] at CI
   rw [hL1] at H0
   clear hL1 pb
   have pb := ptP H0.out.1.pb
   have hneq := run_neq_sameP ⟨p, q, none⟩ w
   go_enter Tryz.func82, Tryz.ntmps82
   go_upto_region 4 with (go_at_call 21; refine (CI.out _ H0.out.1.bel).mono ?_; rintro e w1 ⟨rfl, hz⟩; rw [hz]; clear hz w1)
   have P1 : Hid (PTs w0 g p q L1 w /\ OnStp w0.heap.size w w) := H0.out
   clear pb t1 H0 CI hneq
   obtain ⟨k, hk⟩ : ∃ k : Nat, t.kind = (k : Int) := ⟨t.kind.toNat, by omega⟩
   have hkl : k < g.ts.length := by omega
   have klt : (k : Int) < (g.ts.length : Int) := by omega
   obtain ⟨wd, hwd⟩ : ∃ wd : World, wd = w.drew := ⟨_, rfl⟩
   have P2 : Hid (PTs w0 g p q L1 wd /\ OnStp w0.heap.size w wd) := by rw [hwd]; exact ⟨P1.out.1.still (below_noStp (Below.refl _ _).drew), P1.out.2.trans (below_onStp (Below.refl _ _).drew)⟩
   obtain ⟨tbk, tof, hta, tc⟩ := ts_cells (HGA.out _ P2.out.1.bel) hkl
   have g0 := (gbx_cells P2.out.1.gb).1
   rw [hta] at g0
   have c1 := (HT.out _ P2.out.1.bel).c1
   rw [hk] at c1
   obtain ⟨nm, hnm⟩ : ∃ nm, g.ts.getD k ByteArray.empty = nm := ⟨_, rfl⟩
   have NMS : Hid (nm.size <= 32 /\ nm.data.toList = hdP g t) := ⟨by rw [<- hnm]; exact HN.out.1 _ (mem_getD hkl), by unfold hdP nmT; rw [if_pos hp, hk, Int.toNat_natCast, hnm]⟩
   rw [hnm] at tc
   clear hnm hkl hk hp
   refine wp_region_tail_s 9 (by kernel_rfl) (by kernel_rfl) wd hwd ?_
   clear hwd
   simp only [List.take_succ_cons, List.take_zero, List.drop_succ_cons, List.drop_zero]
   iterate 9 (refine st_yes (v := ?_) (by rfl) ?_ ?_; rotate_left; (· (go_simp; with_reducible rfl)); (try simp only [Act.put, List.setIfInBounds_toArray, List.set_cons_zero, List.set_cons_succ]))
   refine st_nil ?_
   go_wp2_with (go_at_call 83; refine (WS.out _ L1 _ P2.out.1 P2.out.2 HL1.out (by have := NMS.out.1; omega)).mono ?_; rintro e w3 ⟨⟨v3, rfl⟩, k1, k2⟩; have P3 : Hid (PTs w0 g p q (L1 ++ nm.data.toList) w3 /\ OnStp w0.heap.size w w3) := ⟨k1, k2⟩; clear k1 k2)
   go_ret
   refine ⟨rfl, P3.out.2, ?_⟩
   have := P3.out.1
   rw [NMS.out.2] at this
   rw [HE.out]
   exact this
  ·have t1 : (t.prod == -1) = false := by simp; omega
   rw [t1] at CI
   rw [hL1] at H0
   clear hL1 pb
   have pb := ptP H0.out.1.pb
   have hneq := run_neq_sameP ⟨p, q, none⟩ w
   go_enter Tryz.func82, Tryz.ntmps82
   go_upto_region 5 with (go_at_call 21; refine (CI.out _ H0.out.1.bel).mono ?_; rintro e w1 ⟨rfl, hz⟩; rw [hz]; clear hz w1)
   have P1 : Hid (PTs w0 g p q L1 w /\ OnStp w0.heap.size w w) := H0.out
   clear pb t1 H0 CI hneq
   obtain ⟨j, hj⟩ : ∃ j : Nat, t.prod = (j : Int) := ⟨t.prod.toNat, by omega⟩
   have hjl : j < g.ps.length := by omega
   have jlt : (j : Int) < (g.ps.length : Int) := by omega
   obtain ⟨k, hk⟩ : ∃ k : Nat, (g.ps.getD j .none).left = (k : Int) := ⟨(g.ps.getD j .none).left.toNat, by rw [hj, Int.toNat_natCast] at hq; omega⟩
   have hkl : k < g.ns.length := by rw [hj, Int.toNat_natCast] at hq; omega
   have klt : (k : Int) < (g.ns.length : Int) := by omega
   obtain ⟨wd, hwd⟩ : ∃ wd : World, wd = w.drew := ⟨_, rfl⟩
   have P2 : Hid (PTs w0 g p q L1 wd /\ OnStp w0.heap.size w wd) := by rw [hwd]; exact ⟨P1.out.1.still (below_noStp (Below.refl _ _).drew), P1.out.2.trans (below_onStp (Below.refl _ _).drew)⟩
   obtain ⟨tbk, tof, hta, tc⟩ := ns_cells (HGA.out _ P2.out.1.bel) hkl
   obtain ⟨sbk, sof, hpa, -, sc, -⟩ := ps_cells (HGA.out _ P2.out.1.bel) hjl
   obtain ⟨-, g1, -, g3, -⟩ := gbx_cells P2.out.1.gb
   rw [hta] at g1
   rw [hpa] at g3
   rw [hk] at sc
   have c0 := (HT.out _ P2.out.1.bel).c0
   rw [hj] at c0
   obtain ⟨nm, hnm⟩ : ∃ nm, g.ns.getD k ByteArray.empty = nm := ⟨_, rfl⟩
   have NMS : Hid (nm.size <= 32 /\ ((⟨#[40]⟩ : ByteArray) ++ nm).data.toList = hdP g t /\ ((⟨#[40]⟩ : ByteArray) ++ nm).size <= 1000) := have z : nm.size <= 32 := (by rw [<- hnm]; exact HN.out.2 _ (mem_getD hkl)); ⟨z, by rw [cat40]; unfold hdP nmN; rw [if_neg (by omega), hj, Int.toNat_natCast, hk, Int.toNat_natCast, hnm], by rw [ByteArray.size_append]; have : (⟨#[40]⟩ : ByteArray).size = 1 := rfl; omega⟩
   rw [hnm] at tc
   have nsz : ¬ 9223372036854775807 < 1 + nm.size := by have := NMS.out.1; omega
   clear hnm hkl hk hp hj hjl hq
   refine wp_region_tail_s 14 (by kernel_rfl) (by kernel_rfl) wd hwd ?_
   clear hwd
   simp only [List.take_succ_cons, List.take_zero, List.drop_succ_cons, List.drop_zero]
   iterate 14 (refine st_yes (v := ?_) (by rfl) ?_ ?_; rotate_left; (· (go_simp; with_reducible rfl)); (try simp only [Act.put, List.setIfInBounds_toArray, List.set_cons_zero, List.set_cons_succ]))
   refine st_nil ?_
   go_wp2_with (go_at_call 83; refine (WS.out _ L1 _ P2.out.1 P2.out.2 HL1.out NMS.out.2.2).mono ?_; rintro e w3 ⟨⟨v3, rfl⟩, k1, k2⟩; have P3 : Hid (PTs w0 g p q (L1 ++ ((⟨#[40]⟩ : ByteArray) ++ nm).data.toList) w3 /\ OnStp w0.heap.size w w3) := ⟨k1, k2⟩; clear k1 k2)
   go_ret
   refine ⟨rfl, P3.out.2, ?_⟩
   have := P3.out.1
   rw [NMS.out.2.1] at this
   rw [HE.out]
   exact this
 | false =>
  have nep := hf.2 rfl
  clear hf
  obtain ⟨L1, hL1⟩ : ∃ L1, l ++ (⟨#[32]⟩ : ByteArray).data.toList = L1 := ⟨_, rfl⟩
  have HL2 : Hid (l ++ (⟨#[32]⟩ : ByteArray).data.toList = L1) := hL1
  have HE : Hid (R = L1 ++ hdP g t) := by show _ = _; rw [hR, <- hL1]; simp
  have HL1 : Hid (L1.length <= 10000000001) := by have := HL.out; show _ <= _; rw [<- hL1, List.length_append]; simp; omega
  clear hL1 hR
  rcases hk with ⟨hp, hk0, hk1⟩ | ⟨hp, hp1, hq⟩
  ·have t1 : (t.prod == -1) = true := by simpa using hp
   rw [t1] at CI
   have hneq : (binOp .neq 64 (.pointer (some ⟨p, q, none⟩)) (.pointer (some ⟨p0, q0, none⟩))).run Tryz.prog w = .ok (.bool true) w := by
    obtain ⟨t0, hr⟩ := hr
    obtain ⟨c, ty, f, hc, hcz⟩ := cells_of (HT.out _ H0.out.1.bel).c0
    exact run_neq_otherP (a := ⟨p, q, none⟩) (b := ⟨p0, q0, none⟩) nep hc ((H0.out.1.bel.block _ (lt_of_block hr)).trans hr) (by simp) hcz
   go_enter Tryz.func82, Tryz.ntmps82
   go_upto_region 3 with (go_at_call 83; refine (WS.out _ l _ H0.out.1 H0.out.2 (by have := HL.out; omega) (by decide)).mono ?_; rintro e w1 ⟨⟨v1, rfl⟩, k1, k2⟩; have P1 : Hid (PTs w0 g p0 q0 L1 w1 /\ OnStp w0.heap.size w w1) := (by rw [<- HL2.out]; exact ⟨k1, k2⟩); clear k1 k2 pb)
   go_upto_region 4 with (go_at_call 21; refine (CI.out _ P1.out.1.bel).mono ?_; rintro e w2 ⟨rfl, hz⟩; rw [hz]; clear hz w2)
   clear t1 H0 CI nep hneq
   obtain ⟨k, hk⟩ : ∃ k : Nat, t.kind = (k : Int) := ⟨t.kind.toNat, by omega⟩
   have hkl : k < g.ts.length := by omega
   have klt : (k : Int) < (g.ts.length : Int) := by omega
   obtain ⟨wd, hwd⟩ : ∃ wd : World, wd = w1.drew := ⟨_, rfl⟩
   have P2 : Hid (PTs w0 g p0 q0 L1 wd /\ OnStp w0.heap.size w wd) := by rw [hwd]; exact ⟨P1.out.1.still (below_noStp (Below.refl _ _).drew), P1.out.2.trans (below_onStp (Below.refl _ _).drew)⟩
   obtain ⟨tbk, tof, hta, tc⟩ := ts_cells (HGA.out _ P2.out.1.bel) hkl
   have g0 := (gbx_cells P2.out.1.gb).1
   rw [hta] at g0
   have c1 := (HT.out _ P2.out.1.bel).c1
   rw [hk] at c1
   obtain ⟨nm, hnm⟩ : ∃ nm, g.ts.getD k ByteArray.empty = nm := ⟨_, rfl⟩
   have NMS : Hid (nm.size <= 32 /\ nm.data.toList = hdP g t) := ⟨by rw [<- hnm]; exact HN.out.1 _ (mem_getD hkl), by unfold hdP nmT; rw [if_pos hp, hk, Int.toNat_natCast, hnm]⟩
   rw [hnm] at tc
   clear hnm hkl hk hp
   refine wp_region_tail_s 9 (by kernel_rfl) (by kernel_rfl) wd hwd ?_
   clear hwd
   simp only [List.take_succ_cons, List.take_zero, List.drop_succ_cons, List.drop_zero]
   iterate 9 (refine st_yes (v := ?_) (by rfl) ?_ ?_; rotate_left; (· (go_simp; with_reducible rfl)); (try simp only [Act.put, List.setIfInBounds_toArray, List.set_cons_zero, List.set_cons_succ]))
   refine st_nil ?_
   go_wp2_with (go_at_call 83; refine (WS.out _ L1 _ P2.out.1 P2.out.2 HL1.out (by have := NMS.out.1; omega)).mono ?_; rintro e w3 ⟨⟨v3, rfl⟩, k1, k2⟩; have P3 : Hid (PTs w0 g p0 q0 (L1 ++ nm.data.toList) w3 /\ OnStp w0.heap.size w w3) := ⟨k1, k2⟩; clear k1 k2)
   go_ret
   refine ⟨rfl, P3.out.2, ?_⟩
   have := P3.out.1
   rw [NMS.out.2] at this
   rw [HE.out]
   exact this
  ·have t1 : (t.prod == -1) = false := by simp; omega
   rw [t1] at CI
   have hneq : (binOp .neq 64 (.pointer (some ⟨p, q, none⟩)) (.pointer (some ⟨p0, q0, none⟩))).run Tryz.prog w = .ok (.bool true) w := by
    obtain ⟨t0, hr⟩ := hr
    obtain ⟨c, ty, f, hc, hcz⟩ := cells_of (HT.out _ H0.out.1.bel).c0
    exact run_neq_otherP (a := ⟨p, q, none⟩) (b := ⟨p0, q0, none⟩) nep hc ((H0.out.1.bel.block _ (lt_of_block hr)).trans hr) (by simp) hcz
   go_enter Tryz.func82, Tryz.ntmps82
   go_upto_region 3 with (go_at_call 83; refine (WS.out _ l _ H0.out.1 H0.out.2 (by have := HL.out; omega) (by decide)).mono ?_; rintro e w1 ⟨⟨v1, rfl⟩, k1, k2⟩; have P1 : Hid (PTs w0 g p0 q0 L1 w1 /\ OnStp w0.heap.size w w1) := (by rw [<- HL2.out]; exact ⟨k1, k2⟩); clear k1 k2 pb)
   go_upto_region 5 with (go_at_call 21; refine (CI.out _ P1.out.1.bel).mono ?_; rintro e w2 ⟨rfl, hz⟩; rw [hz]; clear hz w2)
   clear t1 H0 CI nep hneq
   obtain ⟨j, hj⟩ : ∃ j : Nat, t.prod = (j : Int) := ⟨t.prod.toNat, by omega⟩
   have hjl : j < g.ps.length := by omega
   have jlt : (j : Int) < (g.ps.length : Int) := by omega
   obtain ⟨k, hk⟩ : ∃ k : Nat, (g.ps.getD j .none).left = (k : Int) := ⟨(g.ps.getD j .none).left.toNat, by rw [hj, Int.toNat_natCast] at hq; omega⟩
   have hkl : k < g.ns.length := by rw [hj, Int.toNat_natCast] at hq; omega
   have klt : (k : Int) < (g.ns.length : Int) := by omega
   obtain ⟨wd, hwd⟩ : ∃ wd : World, wd = w1.drew := ⟨_, rfl⟩
   have P2 : Hid (PTs w0 g p0 q0 L1 wd /\ OnStp w0.heap.size w wd) := by rw [hwd]; exact ⟨P1.out.1.still (below_noStp (Below.refl _ _).drew), P1.out.2.trans (below_onStp (Below.refl _ _).drew)⟩
   obtain ⟨tbk, tof, hta, tc⟩ := ns_cells (HGA.out _ P2.out.1.bel) hkl
   obtain ⟨sbk, sof, hpa, -, sc, -⟩ := ps_cells (HGA.out _ P2.out.1.bel) hjl
   obtain ⟨-, g1, -, g3, -⟩ := gbx_cells P2.out.1.gb
   rw [hta] at g1
   rw [hpa] at g3
   rw [hk] at sc
   have c0 := (HT.out _ P2.out.1.bel).c0
   rw [hj] at c0
   obtain ⟨nm, hnm⟩ : ∃ nm, g.ns.getD k ByteArray.empty = nm := ⟨_, rfl⟩
   have NMS : Hid (nm.size <= 32 /\ ((⟨#[40]⟩ : ByteArray) ++ nm).data.toList = hdP g t /\ ((⟨#[40]⟩ : ByteArray) ++ nm).size <= 1000) := have z : nm.size <= 32 := (by rw [<- hnm]; exact HN.out.2 _ (mem_getD hkl)); ⟨z, by rw [cat40]; unfold hdP nmN; rw [if_neg (by omega), hj, Int.toNat_natCast, hk, Int.toNat_natCast, hnm], by rw [ByteArray.size_append]; have : (⟨#[40]⟩ : ByteArray).size = 1 := rfl; omega⟩
   rw [hnm] at tc
   have nsz : ¬ 9223372036854775807 < 1 + nm.size := by have := NMS.out.1; omega
   clear hnm hkl hk hp hj hjl hq
   refine wp_region_tail_s 14 (by kernel_rfl) (by kernel_rfl) wd hwd ?_
   clear hwd
   simp only [List.take_succ_cons, List.take_zero, List.drop_succ_cons, List.drop_zero]
   iterate 14 (refine st_yes (v := ?_) (by rfl) ?_ ?_; rotate_left; (· (go_simp; with_reducible rfl)); (try simp only [Act.put, List.setIfInBounds_toArray, List.set_cons_zero, List.set_cons_succ]))
   refine st_nil ?_
   go_wp2_with (go_at_call 83; refine (WS.out _ L1 _ P2.out.1 P2.out.2 HL1.out NMS.out.2.2).mono ?_; rintro e w3 ⟨⟨v3, rfl⟩, k1, k2⟩; have P3 : Hid (PTs w0 g p0 q0 (L1 ++ ((⟨#[40]⟩ : ByteArray) ++ nm).data.toList) w3 /\ OnStp w0.heap.size w w3) := ⟨k1, k2⟩; clear k1 k2)
   go_ret
   refine ⟨rfl, P3.out.2, ?_⟩
   have := P3.out.1
   rw [NMS.out.2.1] at this
   rw [HE.out]
   exact this
set_option linter.unusedSimpArgs false in
set_option maxRecDepth 100000 in
set_option maxHeartbeats 4000000 in
theorem print2_W (w0 : World) (g : GV) (p0 q0 p q : Nat) (t : TV) (l : List UInt8) (w : World) (h : PTs w0 g p0 q0 l w) (ht : TBx w0 p q t) (R : List UInt8) (hR : R = l ++ enP t) (hl : l.length <= 10000000000) :
  Calls Tryz.prog 84 #[.pointer (some ⟨p, q, none⟩), .pointer (some ⟨w0.heap.size + 2, 0, none⟩)] w fun e w' => e = .returned (.tuple #[]) /\ OnStp w0.heap.size w w' /\ PTs w0 g p0 q0 R w' := by
 have CI : Hid (Calls Tryz.prog 21 #[.pointer (some ⟨p, q, none⟩)] w fun e w'' => e = .returned (.bool (t.prod == -1)) /\ w'' = w) := isLeaf_W p q t w (ht.later h.bel)
 have WS : Hid (Calls Tryz.prog 83 #[.pointer (some ⟨w0.heap.size + 2, 0, none⟩), .string ⟨#[41]⟩] w fun e w'' => (∃ v, e = .returned v) /\ PTs w0 g p0 q0 (l ++ [41]) w'' /\ OnStp w0.heap.size w w'') := (wstr_K ⟨#[41]⟩ h.tx (by omega) (by decide) h.bel.size).mono fun e w'' ⟨e1, e2, e3, e4⟩ => ⟨⟨_, e1⟩, (h.write e2 e3 e4).1, (h.write e2 e3 e4).2⟩
 have H0 : Hid (PTs w0 g p0 q0 l w) := h
 clear h ht hl
 by_cases hp : t.prod = -1
 ·have t1 : (t.prod == -1) = true := by simpa using hp
  rw [t1] at CI
  have HE : Hid (R = l) := by show _ = _; rw [hR]; unfold enP; rw [if_pos hp, List.append_nil]
  clear hp t1 hR
  go_enter Tryz.func84, Tryz.ntmps84
  go_wp2_with (go_at_call 21; refine CI.out.mono ?_; rintro e w1 ⟨rfl, hz⟩; rw [hz]; clear hz w1)
  refine bodyPost_end (results_none rfl _ _ _) rfl ?_
  exact ⟨rfl, OnStp.refl _ _, by rw [HE.out]; exact H0.out⟩
 ·have t1 : (t.prod == -1) = false := by simpa using hp
  rw [t1] at CI
  have HE : Hid (R = l ++ [41]) := by show _ = _; rw [hR]; unfold enP; rw [if_neg hp]
  clear hp t1 hR
  go_enter Tryz.func84, Tryz.ntmps84
  go_wp2_with (first
   | (go_at_call 21; refine CI.out.mono ?_; rintro e w1 ⟨rfl, hz⟩; rw [hz]; clear hz w1)
   | (go_at_call 83; refine WS.out.mono ?_; rintro e w3 ⟨⟨v3, rfl⟩, k1, k2⟩; have P3 : Hid (PTs w0 g p0 q0 (l ++ [41]) w3 /\ OnStp w0.heap.size w w3) := ⟨k1, k2⟩; clear k1 k2))
  refine bodyPost_end (results_none rfl _ _ _) rfl ?_
  exact ⟨rfl, P3.out.2, by rw [HE.out]; exact P3.out.1⟩
theorem evT_head {p q : Nat} {t : TV} {D R : List EV} {x : EV} (h : D ++ x :: R = evT p q t) (hx : x.en = true) (hne : ∀ a ∈ adsL (kidsA t), a.1 ≠ p) : (D = [] -> x = ⟨true, p, q, t⟩) /\ (D ≠ [] -> x.p ≠ p) := by
 rw [evT_eq] at h
 refine ⟨fun e => ?_, fun e => ?_⟩
 ·subst e
  simp only [List.nil_append, List.cons_append, List.cons.injEq] at h
  exact h.1
 ·cases D with
  | nil => exact absurd rfl e
  | cons d D =>
   simp only [List.cons_append, List.cons.injEq] at h
   have hm : x ∈ evL (kidsA t) ++ [(⟨false, p, q, t⟩ : EV)] := by rw [<- h.2]; simp
   rcases List.mem_append.1 hm with hm | hm
   ·have : (x.p, x.q) ∈ adsL (kidsA t) := by
     rw [<- enA_evL]
     refine List.mem_map.2 ⟨(x.p, x.q, x.t), ?_, rfl⟩
     unfold enA
     exact List.mem_map.2 ⟨x, List.mem_filter.2 ⟨hm, hx⟩, rfl⟩
    exact hne _ this
   ·simp at hm
    rw [hm] at hx
    cases hx
theorem exL_ne {g : GV} {p q : Nat} {t : TV} {D R : List EV} {x : EV} (h : D ++ x :: R = evT p q t) (hD : D ≠ []) : ∃ l, exL g D = 32 :: l := by
 rw [evT_eq] at h
 cases D with
 | nil => exact absurd rfl hD
 | cons d D =>
  simp only [List.cons_append, List.cons.injEq] at h
  obtain ⟨h1, -⟩ := h
  subst h1
  exact ⟨hdP g t ++ exL g D, by simp [exL, evX]⟩
def PlAll (g : GV) (t : TV) : Prop := AllP (PlOk g) t
theorem ev_mem {P : TV -> Prop} (t : TV) : ∀ (p q : Nat), AllP P t -> ∀ x ∈ evT p q t, P x.t := by
 induction t using TV.ind with
 | _ t ih =>
  intro p q h x hx
  rw [evT_eq] at hx
  simp only [List.cons_append, List.mem_cons, List.mem_append, List.not_mem_nil, or_false] at hx
  rcases hx with rfl | hx | rfl
  ·exact h.here
  ·obtain ⟨y, hy, hx⟩ := List.mem_flatMap.1 hx
   exact ih _ (kidF_mem hy) _ _ (h.kid _ (kidF_mem hy)) x hx
  ·exact h.here
set_option linter.unusedSimpArgs false in
set_option maxRecDepth 100000 in
set_option maxHeartbeats 4000000 in
theorem printed_W (g : GV) (p0 : Nat) (t : TV) (w : World) (hg : GAt 140737488355328 w g) (hr : w.heap[p0]? = some (tBox t)) (ht : TAt w t) (hne : ∀ a ∈ adsL (kidsA t), a.1 ≠ p0) (hsz : szT t <= 100000000) (hpl : PlAll g t) (hn1 : ∀ s ∈ g.ts, s.size <= 32) (hn2 : ∀ s ∈ g.ns, s.size <= 32) :
  Calls Tryz.prog 44 #[g.val, .pointer (some ⟨p0, 0, none⟩)] w fun e w' => e = .returned (.string ⟨(txT g t).toArray⟩) /\ Below w.heap.size w w' := by
 have htb : TBx w p0 0 t := by
  obtain ⟨a, b, c, d⟩ := tb_cells hr
  exact ⟨lt_of_block hr, a, b, c, d⟩
 have CW : Hid (∀ w1, PTs w g p0 0 [] w1 -> Calls Tryz.prog 19 #[.pointer (some ⟨p0, 0, none⟩), fnV 82 #[.pointer (some ⟨w.heap.size + 1, 0, none⟩), .pointer (some ⟨w.heap.size + 2, 0, none⟩), .pointer (some ⟨w.heap.size, 0, none⟩)], fnV 84 #[.pointer (some ⟨w.heap.size + 2, 0, none⟩)]] w1 fun e w' => e = .returned (.tuple #[]) /\ PTs w g p0 0 (txT g t) w') := fun w1 h1 => by
  refine (walkAround_R (St := fun D w' => PTs w g p0 0 ((exL g D).drop 1) w') (Fin := fun _ => False) ⟨ent_print1, ent_print2, htb, ht, hsz, fun D w w' h hn => h.still hn, fun D w h => h.bel, fun D p q t' R hD hT w2 h2 => ?_, fun D p q t' R hD hT w2 h2 => ?_⟩ w1 h1).mono ?_
  ·have hD' := ev_bound hD hsz
   have hl := exL_len hn1 hn2 D
   obtain ⟨f1, f2⟩ := evT_head hD rfl hne
   have ok := ev_mem t p0 0 hpl ⟨true, p, q, t'⟩ (by rw [<- hD]; simp)
   refine (print1_W w g p0 0 p q t' _ w2 h2 hg hT ok D.isEmpty ⟨fun e => ?_, fun e => ?_⟩ ⟨t, hr⟩ ((exL g (D ++ [⟨true, p, q, t'⟩])).drop 1) ?_ ?_ hn1 hn2).mono fun e w' ⟨e1, e2, e3⟩ => ⟨true, e1, e2, fun _ => e3, fun q => by cases q⟩
   ·have := f1 (List.isEmpty_iff.1 e)
    cases this
    exact ⟨rfl, rfl⟩
   ·exact f2 (fun z => by rw [z] at e; cases e)
   ·rw [exL_app, exL_in]
    cases hd : D with
    | nil => simp [exL]
    | cons d D2 =>
     rw [<- hd]
     obtain ⟨l, hl⟩ := exL_ne (g := g) hD (by rw [hd]; simp)
     rw [hl, hd]
     simp
   ·rw [List.length_drop]
    omega
  ·have hD' := ev_bound hD hsz
   have hl := exL_len hn1 hn2 D
   refine (print2_W w g p0 0 p q t' _ w2 h2 hT ((exL g (D ++ [⟨false, p, q, t'⟩])).drop 1) ?_ ?_).mono fun e w' ⟨e1, e2, e3⟩ => ⟨e1, e2, e3⟩
   ·rw [exL_app, exL_out]
    cases hd : D with
    | nil =>
     rw [hd, evT_eq] at hD
     simp at hD
    | cons d D2 =>
     rw [<- hd]
     obtain ⟨l, hl⟩ := exL_ne (g := g) hD (by rw [hd]; simp)
     rw [hl]
     simp
   ·rw [List.length_drop]
    omega
  ·rintro e w' ⟨e1, e2 | e2⟩
   ·have e2 : PTs w g p0 0 ((exL g (evT p0 0 t)).drop 1) w' := e2
    rw [evT_text] at e2
    exact ⟨e1, e2⟩
   ·exact e2.elim
 have S0 : Hid (PTs w g p0 0 [] (((w.alloc (gBox g)).alloc (ptBox (some ⟨p0, 0, none⟩))).alloc (.cells #[.pointer none, .slice none 0 0] 137))) := by
  have k : ∀ (j : Nat) (o o' : Obj) (v : World), v.heap[j]? = some o -> (v.alloc o').heap[j]? = some o := fun j o o' v h => ((below_alloc v o').block j (lt_of_block h)).trans h
  have e : ∀ (v : World) (o : Obj), (v.alloc o).heap.size = v.heap.size + 1 := fun v o => by simp
  have bl : ∀ (v : World) (o : Obj), Below w.heap.size w v -> Below w.heap.size w (v.alloc o) := fun v o h => h.trans ((below_alloc v o).mono h.size)
  refine ⟨bl _ _ (bl _ _ (bl _ _ (Below.refl _ _))), k _ _ _ _ (k _ _ _ _ (heap_alloc_new _ _)), ?_, .inl ⟨by omega, .slice none 0 0, ?_, World.ownsRow_nil _ _ _ _, by simp [Value.ownBlock]⟩⟩
  ·have := heap_alloc_new (w.alloc (gBox g)) (ptBox (some ⟨p0, 0, none⟩))
   rw [e] at this
   exact k _ _ _ _ this
  ·have := heap_alloc_new ((w.alloc (gBox g)).alloc (ptBox (some ⟨p0, 0, none⟩))) (.cells #[.pointer none, .slice none 0 0] 137)
   rw [e, e] at this
   exact this
 have CS : Hid (∀ w1, PTs w g p0 0 (txT g t) w1 -> Calls Tryz.prog 85 #[.pointer (some ⟨w.heap.size + 2, 0, none⟩)] w1 fun e w' => e = .returned (.string ⟨(txT g t).toArray⟩) /\ Below w.heap.size w w') := fun w1 h1 => (bstr_P h1.tx h1.bel.size).mono fun e w' ⟨e1, e2⟩ => ⟨e1, h1.bel.trans e2⟩
 clear htb hg hr ht hne hsz hpl hn1 hn2
 generalize txT g t = tx at *
 go_enter Tryz.func44, Tryz.ntmps44
 go_upto_region 2 with fail
 refine wp_world (fun w' => PTs w g p0 0 [] w') S0.out fun w1 h1 => ?_
 have H1 : Hid (PTs w g p0 0 [] w1) := h1
 have pb := ptP h1.pb
 clear h1 S0
 go_wp2_with (first
  | (go_at_call 19; refine (CW.out _ H1.out).mono ?_; rintro e w2 ⟨rfl, k2⟩; have H2 : Hid (PTs w g p0 0 tx w2) := k2; clear k2 pb)
  | (go_at_call 85; refine (CS.out _ H2.out).mono ?_; rintro e w3 ⟨rfl, b3⟩; have R : Hid (Below w.heap.size w w3) := b3; clear b3))
 go_ret
 exact ⟨rfl, R.out⟩
theorem plAll_of {g : GV} (hc : OkC g) {t : TV} (h : RT g t) : PlAll g t := fun d y hy => by
 rcases h d y hy with ⟨h1, h2, h3, -⟩ | ⟨h1, h2, -⟩
 ·exact .inl ⟨h1, h2, h3⟩
 ·have := hc.left y.t.prod.toNat (by omega)
  exact .inr ⟨h1, h2, this⟩
theorem rt_of {g : GV} {t : TV} (h : (runU g (ckT g (0, 0) false t) 0).1 = 0) : RT g t := RT.of t (0, 0) false (runU_zero _ 0 h)
def prEr (g : GV) (er : Int) (t : TV) : Int := if er = 0 then (runU g (ckT g (0, 0) false t) 0).1 else er
def prTx (g : GV) (er : Int) (t : TV) : ByteArray := if prEr g er t = 0 then ⟨(txT g t).toArray⟩ else ⟨#[]⟩
set_option linter.unusedSimpArgs false in
set_option maxRecDepth 100000 in
set_option maxHeartbeats 4000000 in
theorem Print_W (g : GV) (t : TV) (w : World) (h : GAt 140737488355328 w g) (hpc : g.ps.length <= g.pc) (er at_ : Int) (hE : checkG g (checkF g.ts g.ns) = (er, at_)) (ht : TAt w t) (hsz : szT t <= 100000000) :
  Calls Tryz.prog 14 #[g.val, t.val] w fun e w' => e = .returned (.tuple #[.string (prTx g er t), .int .i64 (prEr g er t)]) /\ Below w.heap.size w w' := by
 have BA : Hid (Below w.heap.size w ((w.alloc (gBox g)).alloc (tBox t)) /\ ((w.alloc (gBox g)).alloc (tBox t)).heap[w.heap.size]? = some (gBox g) /\ ((w.alloc (gBox g)).alloc (tBox t)).heap[w.heap.size + 1]? = some (tBox t)) := by
  have h1 := below_alloc w (gBox g)
  have h2 := below_alloc (w.alloc (gBox g)) (tBox t)
  refine ⟨h1.trans (h2.mono h1.size), (h2.block _ (by simp)).trans (heap_alloc_new _ _), ?_⟩
  have := heap_alloc_new (w.alloc (gBox g)) (tBox t)
  rwa [show (w.alloc (gBox g)).heap.size = w.heap.size + 1 by simp] at this
 obtain ⟨n2, hn2⟩ : ∃ n2 : Int, (if er = 0 then ((runU g (ckT g (0, 0) false t) 0).2 : Int) else 0) = n2 := ⟨_, rfl⟩
 have CC : Hid (∀ w', Below w.heap.size w w' -> Calls Tryz.prog 6 #[g.val, t.val] w' fun e w'' => e = .returned (.tuple #[.int .i64 (prEr g er t), .int .i64 n2]) /\ Below w'.heap.size w' w'') := fun w' hb => by
  have := Check_W g t w' (h.later hb) hpc er at_ hE (ht.later hb) hsz
  rw [hn2] at this
  exact this
 have CP : Hid (prEr g er t = 0 -> ∀ w', Below w.heap.size w w' -> w'.heap[w.heap.size + 1]? = some (tBox t) -> Calls Tryz.prog 44 #[g.val, .pointer (some ⟨w.heap.size + 1, 0, none⟩)] w' fun e w'' => e = .returned (.string (prTx g er t)) /\ Below w'.heap.size w' w'') := fun he w' hb hbx => by
  have he0 : er = 0 := by
   unfold prEr at he
   by_cases z : er = 0
   ·exact z
   ·rw [if_neg z] at he; exact absurd he z
  have hr0 : (runU g (ckT g (0, 0) false t) 0).1 = 0 := by unfold prEr at he; rwa [if_pos he0] at he
  have hc : OkC g := OkC.of (by rw [hE]; exact he0)
  have := printed_W g (w.heap.size + 1) t w' (h.later hb) hbx (ht.later hb) (fun a ha => by have := kids_lt ht ha; omega) hsz (plAll_of hc (rt_of hr0)) hc.ts hc.ns
  unfold prTx
  rw [if_pos he]
  exact this
 have hS : Hid (prEr g er t ≠ 0 -> prTx g er t = ⟨#[]⟩) := fun he => by unfold prTx; rw [if_neg he]
 clear h hpc hE ht hsz hn2
 generalize prTx g er t = S at *
 generalize prEr g er t = E at *
 go_enter Tryz.func14, Tryz.ntmps14
 go_upto_region 1 with fail
 refine wp_world (fun w' => Below w.heap.size w w' /\ w'.heap[w.heap.size]? = some (gBox g) /\ w'.heap[w.heap.size + 1]? = some (tBox t)) BA.out fun w1 h1 => ?_
 have H1 : Hid (Below w.heap.size w w1 /\ w1.heap[w.heap.size]? = some (gBox g) /\ w1.heap[w.heap.size + 1]? = some (tBox t)) := h1
 clear h1 BA
 obtain ⟨g0, g1, g2, g3, g4⟩ := gbx_cells H1.out.2.1
 obtain ⟨c0, c1, c2, c3⟩ := tb_cells H1.out.2.2
 go_upto_region 2 with (go_at_call 6; refine (CC.out _ H1.out.1).mono ?_; rintro e w2 ⟨rfl, b2⟩; have H2 : Hid (Below w.heap.size w w2 /\ w2.heap[w.heap.size]? = some (gBox g) /\ w2.heap[w.heap.size + 1]? = some (tBox t)) := ⟨H1.out.1.trans (b2.mono H1.out.1.size), (b2.block _ (lt_of_block H1.out.2.1)).trans H1.out.2.1, (b2.block _ (lt_of_block H1.out.2.2)).trans H1.out.2.2⟩; clear b2 g0 g1 g2 g3 g4 c0 c1 c2 c3)
 clear H1 CC
 by_cases he : E = 0
 ·subst he
  have CQ : Hid (Calls Tryz.prog 44 #[g.val, .pointer (some ⟨w.heap.size + 1, 0, none⟩)] w2 fun e w'' => e = .returned (.string S) /\ Below w2.heap.size w2 w'') := CP.out rfl w2 H2.out.1 H2.out.2.2
  clear CP hS
  obtain ⟨g0, g1, g2, g3, g4⟩ := gbx_cells H2.out.2.1
  go_wp2_with (go_at_call 44; refine CQ.out.mono ?_; rintro e w3 ⟨rfl, b3⟩; have R : Hid (Below w.heap.size w w3) := H2.out.1.trans (b3.mono H2.out.1.size); clear b3)
  go_ret2
  exact ⟨rfl, R.out⟩
 ·have t1 : (E != 0) = true := by simpa using he
  have hS0 := hS.out he
  subst hS0
  clear CP hS
  go_wp2
  go_ret2
  exact ⟨rfl, H2.out.1⟩
end Go.Proofs.YtobhemaikomdaaaGreatDoor
