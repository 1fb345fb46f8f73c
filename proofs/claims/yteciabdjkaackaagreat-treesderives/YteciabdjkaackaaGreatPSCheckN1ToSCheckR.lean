import Derived.Test.YteciabdjkaackaaGreatPSWordToSCheck
namespace Go.Proofs.YteciabdjkaackaaGreat
set_option linter.unusedVariables false
open Go.RowKit Go.Maps
set_option maxRecDepth 100000 in
set_option maxHeartbeats 2000000 in
theorem cn_terms (a1 a2:Option Addr)(c1 c2:Nat)(ts ns:List ByteArray)(w:World)(k1:(ts.length:Int) > 64) :
  Calls Tryz.prog 120 #[.slice a1 ts.length c1,.slice a2 ns.length c2] w fun e w'=>∃ er at_,e=.returned (.tuple #[.int .i64 er,.int .i64 at_])/\er=31/\at_=0/\Below w.heap.size w w':=by
 go_enter Tryz.func120,Tryz.ntmps120
 go_wp2
 go_returns
 exact ⟨_,_,rfl,rfl,rfl,Below.refl _ _⟩
set_option maxRecDepth 100000 in
set_option maxHeartbeats 2000000 in
theorem cn_nons (a1 a2:Option Addr)(c1 c2:Nat)(ts ns:List ByteArray)(w:World)(k1:¬ (ts.length:Int) > 64)(k2:(ns.length:Int) > 64) :
  Calls Tryz.prog 120 #[.slice a1 ts.length c1,.slice a2 ns.length c2] w fun e w'=>∃ er at_,e=.returned (.tuple #[.int .i64 er,.int .i64 at_])/\er=32/\at_=0/\Below w.heap.size w w':=by
 go_enter Tryz.func120,Tryz.ntmps120
 go_wp2
 go_returns
 exact ⟨_,_,rfl,rfl,rfl,Below.refl _ _⟩
def CN1 (a1:Option Addr)(c1:Nat)(ts:List ByteArray)(w:World)(er at_:Int)(sn:List ByteArray):Prop :=
 Calls Tryz.prog 137 #[.slice a1 ts.length c1,.func (.func 138) #[] #[],.map (some w.heap.size)] (w.alloc (.map #[] 0)) fun e w1=>e=.returned (.tuple #[.int .i64 er,.int .i64 at_])/\∃ D1,w1.ownsMap Tryz.prog 9 unitElem w.heap.size (Maps.size D1) D1/\USet D1 sn/\Below w.heap.size w w1
def CN2 (a2:Option Addr)(c2:Nat)(ns:List ByteArray)(w:World)(sn1:List ByteArray)(er at_:Int)(sn:List ByteArray):Prop :=
 ∀ (w1:World),(∃ D1,w1.ownsMap Tryz.prog 9 unitElem w.heap.size (Maps.size D1) D1/\USet D1 sn1/\Below w.heap.size w w1) ->
  Calls Tryz.prog 137 #[.slice a2 ns.length c2,.func (.func 139) #[] #[],.map (some w.heap.size)] w1 fun e w2=>e=.returned (.tuple #[.int .i64 er,.int .i64 at_])/\∃ D2,w2.ownsMap Tryz.prog 9 unitElem w.heap.size (Maps.size D2) D2/\USet D2 sn/\Below w.heap.size w w2
set_option maxRecDepth 100000 in
set_option maxHeartbeats 2000000 in
theorem cn_first (a1 a2:Option Addr)(c1 c2:Nat)(ts ns:List ByteArray)(w:World)(k1:¬ (ts.length:Int) > 64)(k2:¬ (ns.length:Int) > 64)(er1 at1:Int)(sn1:List ByteArray)(k3:(er1 == 0)=false)(HC1:Hid (CN1 a1 c1 ts w er1 at1 sn1)) :
  Calls Tryz.prog 120 #[.slice a1 ts.length c1,.slice a2 ns.length c2] w fun e w'=>∃ er at_,e=.returned (.tuple #[.int .i64 er,.int .i64 at_])/\er=er1/\at_=at1/\Below w.heap.size w w':=by
 have hmm:=@run_makeMap Tryz.prog
 have H1:Hid True:=trivial
 go_enter Tryz.func120,Tryz.ntmps120
 go_wp2_with (first | (go_at_call 137;guard_hyp H1:Hid True;clear H1;refine Calls.mono HC1.out ?_;rintro e w1 ⟨rfl,H1'⟩;have H1:Hid _:=H1';clear H1'))
 go_returns
 obtain ⟨D,_,_,hb⟩:=H1.out
 exact ⟨_,_,rfl,rfl,rfl,hb⟩
set_option maxRecDepth 100000 in
set_option maxHeartbeats 2000000 in
theorem cn_second (a1 a2:Option Addr)(c1 c2:Nat)(ts ns:List ByteArray)(w:World)(k1:¬ (ts.length:Int) > 64)(k2:¬ (ns.length:Int) > 64)(at1 er2 at2:Int)(sn1 sn2:List ByteArray)(k4:(er2 == 0)=false)(HC1:Hid (CN1 a1 c1 ts w 0 at1 sn1))(HC2:Hid (CN2 a2 c2 ns w sn1 er2 at2 sn2)) :
  Calls Tryz.prog 120 #[.slice a1 ts.length c1,.slice a2 ns.length c2] w fun e w'=>∃ er at_,e=.returned (.tuple #[.int .i64 er,.int .i64 at_])/\er=er2/\at_=at2/\Below w.heap.size w w':=by
 have hmm:=@run_makeMap Tryz.prog
 have H1:Hid True:=trivial
 go_enter Tryz.func120,Tryz.ntmps120
 go_wp2_with (first | (go_at_call 137;guard_hyp H1:Hid True;clear H1;refine Calls.mono HC1.out ?_;rintro e w1 ⟨rfl,H1'⟩;have H1:Hid _:=H1';clear H1') | (go_at_call 137;refine Calls.mono (HC2.out _ H1.out) ?_;rintro e w2 ⟨rfl,H2'⟩;have H2:Hid _:=H2';clear H2'))
 go_returns
 obtain ⟨D,_,_,hb⟩:=H2.out
 exact ⟨_,_,rfl,rfl,rfl,hb⟩
set_option maxRecDepth 100000 in
set_option maxHeartbeats 2000000 in
theorem cn_good (a1 a2:Option Addr)(c1 c2:Nat)(ts ns:List ByteArray)(w:World)(k1:¬ (ts.length:Int) > 64)(k2:¬ (ns.length:Int) > 64)(at1 at2:Int)(sn1 sn2:List ByteArray)(HC1:Hid (CN1 a1 c1 ts w 0 at1 sn1))(HC2:Hid (CN2 a2 c2 ns w sn1 0 at2 sn2)) :
  Calls Tryz.prog 120 #[.slice a1 ts.length c1,.slice a2 ns.length c2] w fun e w'=>∃ er at_,e=.returned (.tuple #[.int .i64 er,.int .i64 at_])/\er=0/\at_=sn2.length/\Below w.heap.size w w':=by
 have hmm:=@run_makeMap Tryz.prog
 have H1:Hid True:=trivial
 go_enter Tryz.func120,Tryz.ntmps120
 go_wp2_with (first | (go_at_call 137;guard_hyp H1:Hid True;clear H1;refine Calls.mono HC1.out ?_;rintro e w1 ⟨rfl,H1'⟩;have H1:Hid _:=H1';clear H1') | (go_at_call 137;refine Calls.mono (HC2.out _ H1.out) ?_;rintro e w2 ⟨rfl,D2,o2,s2,hb2'⟩;have hb2:Hid _:=hb2';clear hb2';have hz:Hid (Maps.size D2=sn2.length):=s2.size;clear s2) | (at_len;refine wpList_len_own _ rfl _ 201 rfl 9 186 Tryz.underlying201 unitElem _ _ D2 rfl o2 ?_))
 go_returns
 exact ⟨_,_,rfl,rfl,by rw [hz.out],hb2.out⟩
theorem checknames_any (a1 a2:Option Addr)(c1 c2 N1 N2:Nat)(ts ns:List ByteArray)(w:World)(e1:N1=ts.length)(e2:N2=ns.length)(hz1:∀ s∈ts,s.size<=maxLen)(hz2:∀ s∈ns,s.size<=maxLen)(hr1:StrRow w a1 ts)(hr2:StrRow w a2 ns) :
  Calls Tryz.prog 120 #[.slice a1 N1 c1,.slice a2 N2 c2] w fun e w'=>∃ er at_,e=.returned (.tuple #[.int .i64 er,.int .i64 at_])/\er=(cF_ ts ns).1/\at_=(cF_ ts ns).2/\Below w.heap.size w w':=by
 subst e1 e2
 by_cases k1:64 < ts.length
 ·have HE:cF_ ts ns=(31,0):=by unfold cF_;rw [if_pos k1]
  rw [HE]
  exact cn_terms a1 a2 c1 c2 ts ns w (by omega)
 by_cases k2:64 < ns.length
 ·have HE:cF_ ts ns=(32,0):=by unfold cF_;rw [if_neg k1,if_pos k2]
  rw [HE]
  exact cn_nons a1 a2 c1 c2 ts ns w (by omega) (by omega)
 have k1':¬ (ts.length:Int) > 64:=by omega
 have k2':¬ (ns.length:Int) > 64:=by omega
 have hb0:Below w.heap.size w (w.alloc (.map #[] 0)):=bAl w _
 have ho0:(w.alloc (.map #[] 0)).ownsMap Tryz.prog 9 unitElem w.heap.size (Maps.size (.map []:DataW Unit)) (.map []:DataW Unit):=World.ownsMap_made w Tryz.prog 9 (unitElem (H:=Unit))
 have HC1:CN1 a1 c1 ts w (fF_ termS ts []).1 (fF_ termS ts []).2.1 (fF_ termS ts []).2.2:=(forms_term a1 c1 w.heap.size ts [] (.map []) (w.alloc (.map #[] 0)) (by omega) hz1 (by simp) (hr1.later hb0) ho0 USet.empty).mono fun e w1 ⟨D1,h1,h2,h3,h4⟩=>⟨h1,D1,h2,h3,below_grown hb0 (Nat.le_refl _) h4⟩
 have hck:cF_ ts ns=if (fF_ termS ts []).1≠0 then ((fF_ termS ts []).1,(fF_ termS ts []).2.1) else
   if (fF_ wordS ns (fF_ termS ts []).2.2).1≠0 then ((fF_ wordS ns (fF_ termS ts []).2.2).1,(fF_ wordS ns (fF_ termS ts []).2.2).2.1) else (0,(fF_ wordS ns (fF_ termS ts []).2.2).2.2.length):=by
  unfold cF_;rw [if_neg k1,if_neg k2]
 have hl1:=formsF_len termS ts []
 generalize fF_ termS ts []=A at *
 obtain ⟨er1,at1,sn1⟩:=A
 simp only at hck hl1 HC1
 have hl2:sn1.length<=1000:=by simp at hl1;omega
 have HC2:CN2 a2 c2 ns w sn1 (fF_ wordS ns sn1).1 (fF_ wordS ns sn1).2.1 (fF_ wordS ns sn1).2.2:=fun w1 ⟨D1,hown,hU,hb⟩=>(forms_word a2 c2 w.heap.size ns sn1 D1 w1 (by omega) hz2 hl2 (hr2.later hb) hown hU).mono fun e w2 ⟨D2,h1,h2,h3,h4⟩=>⟨h1,D2,h2,h3,below_grown hb (Nat.le_refl _) h4⟩
 generalize fF_ wordS ns sn1=C at *
 obtain ⟨er2,at2,sn2⟩:=C
 simp only at hck HC2
 by_cases k3:er1=0
 ·subst k3
  simp only [ne_eq,not_true_eq_false,if_false] at hck
  by_cases k4:er2=0
  ·subst k4
   have HE:cF_ ts ns=(0,(sn2.length:Int)):=by rw [hck];simp
   rw [HE]
   exact cn_good a1 a2 c1 c2 ts ns w k1' k2' at1 at2 sn1 sn2 HC1 HC2
  ·have HE:cF_ ts ns=(er2,at2):=by rw [hck];simp [k4]
   rw [HE]
   exact cn_second a1 a2 c1 c2 ts ns w k1' k2' at1 er2 at2 sn1 sn2 (by simp [k4]) HC1 HC2
 ·have HE:cF_ ts ns=(er1,at1):=by rw [hck];simp [k3]
  rw [HE]
  exact cn_first a1 a2 c1 c2 ts ns w k1' k2' er1 at1 sn1 (by simp [k3]) HC1
theorem in_gs {w:World}{v:Value}{ss:List ByteArray}(h:GS w v ss)(s:ByteArray)(hl:ss.length<=140737488355328):Calls Tryz.prog 118 #[v,.string s] w fun e w'=>e=.returned (.int .i64 (inS ss s))/\w=w':=by
 obtain ⟨a,c,rfl,hr,_,_⟩:=h.row
 exact in_any a _ c ss s w rfl hl hr
theorem gs_cnt {w:World}{a:Option Addr}{n c:Nat}{ss:List ByteArray}{y:ByteArray}(h:GS w (.slice a n c) (ss++[y])):n=ss.length+1:=by
 obtain ⟨a',c',e⟩:=gs_len h
 simp at e
 exact e.2.1
def okS (t:Bool)(s:ByteArray):Bool:=bif t then termS s else wordS s
def chk:List (Bool×ByteArray)->List ByteArray->Int×Int
 | [],all=>(0,all.length)
 | (t,s) :: r,all=>if okS t s=false then (21,all.length) else if inB all s=true then (6,all.length) else chk r (all++[s])
def kinds (ts ns:List ByteArray):List (Bool×ByteArray):=ts.map (fun s=>(true,s))++ns.map (fun s=>(false,s))
theorem chk_nons:∀ (ns all:List ByteArray),chk (ns.map (fun s=>(false,s))) all=if (fF_ wordS ns all).1≠0 then ((fF_ wordS ns all).1,(fF_ wordS ns all).2.1) else (0,(fF_ wordS ns all).2.2.length)
 | [],all=>by simp [chk,fF_]
 | s :: r,all=>by
  by_cases h:wordS s=false
  ·simp [chk,fF_,okS,h]
  ·by_cases h2:inB all s=true
   ·simp [chk,fF_,okS,h,h2]
   ·simp only [List.map_cons,chk,fF_,okS,cond_false,if_neg h,if_neg h2]
    exact chk_nons r _
theorem chk_terms (R:List (Bool×ByteArray)):∀ (ts all:List ByteArray),chk (ts.map (fun s=>(true,s))++R) all=if (fF_ termS ts all).1≠0 then ((fF_ termS ts all).1,(fF_ termS ts all).2.1) else chk R (fF_ termS ts all).2.2
 | [],all=>by simp [fF_]
 | s :: r,all=>by
  by_cases h:termS s=false
  ·simp [chk,fF_,okS,h]
  ·by_cases h2:inB all s=true
   ·simp [chk,fF_,okS,h,h2]
   ·simp only [List.map_cons,List.cons_append,chk,fF_,okS,cond_true,if_neg h,if_neg h2]
    exact chk_terms R r _
theorem chk_is {ts ns:List ByteArray}(h1:¬ 64 < ts.length)(h2:¬ 64 < ns.length):chk (kinds ts ns) []=cF_ ts ns:=by
 unfold kinds cF_
 rw [chk_terms,if_neg h1,if_neg h2]
 split
 ·rfl
 ·exact chk_nons ns _
theorem inB_place (ss:List ByteArray)(s:ByteArray):inB ss s=(placeS ss s).isSome:=by
 unfold inB placeS
 exact List.findIdx?_isSome.symm
theorem inS_in {ss:List ByteArray}{s:ByteArray}(h:inB ss s=true):inS ss s ≥ 0:=by
 rw [inB_place] at h
 unfold inS
 cases e:placeS ss s with
 | none=>rw [e] at h;cases h
 | some i=>simp
theorem inS_out {ss:List ByteArray}{s:ByteArray}(h:inB ss s=false):inS ss s=-1:=by
 rw [inB_place] at h
 unfold inS
 cases e:placeS ss s with
 | none=>rfl
 | some i=>rw [e] at h;cases h
theorem kinds_term {ts ns:List ByteArray}{k:Nat}(h:k < ts.length):(kinds ts ns).drop k=(true,ts.getD k ByteArray.empty) :: (kinds ts ns).drop (k+1):=by
 have hk:k < (kinds ts ns).length:=by simp [kinds];omega
 rw [List.drop_eq_getElem_cons hk]
 congr 1
 simp [kinds,List.getElem_append_left,h,List.getD]
theorem kinds_non {ts ns:List ByteArray}{k:Nat}(h:ts.length<=k)(h2:k < ts.length+ns.length):(kinds ts ns).drop k=(false,ns.getD (k - ts.length) ByteArray.empty) :: (kinds ts ns).drop (k+1):=by
 have hk:k < (kinds ts ns).length:=by simp [kinds];omega
 rw [List.drop_eq_getElem_cons hk]
 congr 1
 have h3:k - ts.length < ns.length:=by omega
 simp [kinds,List.getElem_append_right,h,h3,List.getD]
theorem grew_below {w w1 w4:World}{v v':Value}(hb:Below w.heap.size w w1)(hv:∀ k,v.ownBlock=some k->w.heap.size<=k)(g:Grew w1 w4 v v'):Below w.heap.size w w4/\∀ k,v'.ownBlock=some k->w.heap.size<=k:=by
 refine ⟨⟨g.grown.os.trans hb.os,g.grown.tape.trans hb.tape,g.grown.output.trans hb.output,Nat.le_trans hb.size g.grown.size,fun k hk=>(g.grown.block k (Nat.lt_of_lt_of_le hk hb.size) fun e=>?_).trans (hb.block k hk)⟩,fun k hk=>?_⟩
 ·have:=hv k e.symm;omega
 ·rcases g.moved with e | ⟨j,e,hj⟩
  ·exact hv k (by rw [<- e];exact hk)
  ·rw [e] at hk;simp at hk;have:=hb.size;omega
set_option maxRecDepth 100000 in
set_option maxHeartbeats 8000000 in
theorem refcheck_in (a1 a2:Option Addr)(c1 c2:Nat)(ts ns:List ByteArray)(w:World)(k1:¬ 64 < ts.length)(k2:¬ 64 < ns.length)(hz1:∀ s∈ts,s.size<=maxLen)(hz2:∀ s∈ns,s.size<=maxLen)(hr1:StrRow w a1 ts)(hr2:StrRow w a2 ns) :
  Calls Tryz.prog 94 #[.slice a1 ts.length c1,.slice a2 ns.length c2] w fun e w'=>∃ er at_,e=.returned (.tuple #[.int .i64 er,.int .i64 at_])/\er=(chk (kinds ts ns) []).1/\at_=(chk (kinds ts ns) []).2/\Below w.heap.size w w':=by
 have k1':¬ (ts.length:Int) > 64:=by omega
 have k2':¬ (ns.length:Int) > 64:=by omega
 go_enter Tryz.func94,Tryz.ntmps94
 go_wp2
 go_loopw [6,7] (fun al i wr=>∃ (k:Nat) (sn:List ByteArray),k<=ts.length+ns.length/\i=.int .i64 k/\GS wr al sn/\(∀ j,al.ownBlock=some j->w.heap.size<=j)/\Below w.heap.size w wr/\Hid (chk ((kinds ts ns).drop k) sn=chk (kinds ts ns) [])/\Hid (sn.length=k)) (fun _ i _=>ts.length+ns.length - (intOf i).toNat)
 case atStart=>exact ⟨0,[],Nat.zero_le _,rfl,GS.nil _,fun j hj=>by simp [Value.ownBlock] at hj,Below.refl _ _,rfl,rfl⟩
 case round =>
  obtain ⟨k,sn,hk,rfl,hgs,hfresh,hb,HF,HN⟩:=hrel
  obtain ⟨a6,c6,rfl⟩:=gs_len hgs
  have hml:sn.length<=140737488355328:=by have:=HN.out;omega
  have hle:sn.length<=1000000:=by have:=HN.out;omega
  by_cases hlt2:k < ts.length+ns.length
  ·have hki:(k:Int) < (ts.length:Int)+(ns.length:Int):=by omega
   by_cases hlt:k < ts.length
   ·have HD:Hid ((kinds ts ns).drop k=(true,ts.getD k ByteArray.empty) :: (kinds ts ns).drop (k+1)):=kinds_term hlt
    have hkt:(k:Int) < (ts.length:Int):=by omega
    obtain ⟨q,off,rfl,hq,hc⟩:=hr1 (by intro h;subst h;simp at hlt hlt2;try omega)
    have h1:wr.cell? ⟨q,off+k,none⟩=some (.string (ts.getD k ByteArray.empty)):=(hb.cell (p:=⟨q,off+k,none⟩) hq).trans (hc k (by omega))
    have hs1:(ts.getD k ByteArray.empty).size<=maxLen:=hz1 _ (by simp [List.getD,show k < ts.length by omega])
    clear hc hr1 hr2 hz1 hz2
    generalize ts.getD k ByteArray.empty=s at *
    have hs2:s.size<=9223372036854775807:=by unfold maxLen at hs1;omega
    by_cases hw:wordS s=true
    ·have HK:Hid (okS true s=true):=by unfold Hid okS termS;simp [hw]
     by_cases hin:inB sn s=true
     ·have HE:Hid (chk (kinds ts ns) []=((6:Int),(sn.length:Int))):=by
       unfold Hid
       rw [<- HF.out,HD.out]
       simp [chk,HK.out,hin]
      have hge:inS sn s ≥ 0:=inS_in hin
      go_wp2_with (first | (go_at_call 116;refine (refword_any s _ hs2).mono ?_;rintro e w' ⟨rfl,rfl⟩) | (go_at_call 117;refine (refquoted_any s _ hs2).mono ?_;rintro e w' ⟨rfl,rfl⟩) | (go_at_call 118;refine (in_gs hgs s hml).mono ?_;rintro e w' ⟨rfl,rfl⟩))
      go_returns
      exact ⟨_,_,rfl,by rw [HE.out],by rw [HE.out,HN.out],hb⟩
     ·have hnin:inB sn s=false:=by simpa using hin
      have HE:Hid (chk ((kinds ts ns).drop (k+1)) (sn++[s])=chk (kinds ts ns) []):=by
       unfold Hid
       rw [<- HF.out,HD.out]
       simp [chk,HK.out,hnin]
      have hno:inS sn s=-1:=inS_out hnin
      have hnA:GS (wr.alloc (.cells #[.string s] 9)) (.slice a6 sn.length c6) sn:=hgs.later (bAl wr _)
      have hy:(wr.alloc (.cells #[.string s] 9)).cell? ⟨wr.heap.size,0,none⟩=some (.string s):=by simp
      go_wp2_with (first | (go_at_call 116;refine (refword_any s _ hs2).mono ?_;rintro e w' ⟨rfl,rfl⟩) | (go_at_call 117;refine (refquoted_any s _ hs2).mono ?_;rintro e w' ⟨rfl,rfl⟩) | (go_at_call 118;refine (in_gs hgs s hml).mono ?_;rintro e w' ⟨rfl,rfl⟩) | (at_builtin;refine wpList_gs_append rfl _ _ rfl (.slice a6 sn.length c6) sn rfl hnA _ _ s rfl hy hle ?_;intro a4 n4 c4 w4 ho4 hg4;obtain rfl:=gs_cnt ho4))
      obtain ⟨r1,r2⟩:=grew_below (hb.alloc hb.size _) hfresh hg4
      go_roundw
      case rel=>exact ⟨k+1,sn++[s],by omega,by go_num,ho4,r2,r1,HE,by unfold Hid;rw [List.length_append,HN.out];rfl⟩
      case measure=>simp [intOf];omega
    have hw0:wordS s=false:=by simpa using hw
    by_cases hq1:qS_ s=true
    ·have HK:Hid (okS true s=true):=by unfold Hid okS termS;simp [hq1]
     by_cases hin:inB sn s=true
     ·have HE:Hid (chk (kinds ts ns) []=((6:Int),(sn.length:Int))):=by
       unfold Hid
       rw [<- HF.out,HD.out]
       simp [chk,HK.out,hin]
      have hge:inS sn s ≥ 0:=inS_in hin
      go_wp2_with (first | (go_at_call 116;refine (refword_any s _ hs2).mono ?_;rintro e w' ⟨rfl,rfl⟩) | (go_at_call 117;refine (refquoted_any s _ hs2).mono ?_;rintro e w' ⟨rfl,rfl⟩) | (go_at_call 118;refine (in_gs hgs s hml).mono ?_;rintro e w' ⟨rfl,rfl⟩))
      go_returns
      exact ⟨_,_,rfl,by rw [HE.out],by rw [HE.out,HN.out],hb⟩
     ·have hnin:inB sn s=false:=by simpa using hin
      have HE:Hid (chk ((kinds ts ns).drop (k+1)) (sn++[s])=chk (kinds ts ns) []):=by
       unfold Hid
       rw [<- HF.out,HD.out]
       simp [chk,HK.out,hnin]
      have hno:inS sn s=-1:=inS_out hnin
      have hnA:GS (wr.alloc (.cells #[.string s] 9)) (.slice a6 sn.length c6) sn:=hgs.later (bAl wr _)
      have hy:(wr.alloc (.cells #[.string s] 9)).cell? ⟨wr.heap.size,0,none⟩=some (.string s):=by simp
      go_wp2_with (first | (go_at_call 116;refine (refword_any s _ hs2).mono ?_;rintro e w' ⟨rfl,rfl⟩) | (go_at_call 117;refine (refquoted_any s _ hs2).mono ?_;rintro e w' ⟨rfl,rfl⟩) | (go_at_call 118;refine (in_gs hgs s hml).mono ?_;rintro e w' ⟨rfl,rfl⟩) | (at_builtin;refine wpList_gs_append rfl _ _ rfl (.slice a6 sn.length c6) sn rfl hnA _ _ s rfl hy hle ?_;intro a4 n4 c4 w4 ho4 hg4;obtain rfl:=gs_cnt ho4))
      obtain ⟨r1,r2⟩:=grew_below (hb.alloc hb.size _) hfresh hg4
      go_roundw
      case rel=>exact ⟨k+1,sn++[s],by omega,by go_num,ho4,r2,r1,HE,by unfold Hid;rw [List.length_append,HN.out];rfl⟩
      case measure=>simp [intOf];omega
    have hq0:qS_ s=false:=by simpa using hq1
    have HK:Hid (okS true s=false):=by unfold Hid okS termS;simp [hw0,hq0]
    have HE:Hid (chk (kinds ts ns) []=((21:Int),(sn.length:Int))):=by
     unfold Hid
     rw [<- HF.out,HD.out]
     simp [chk,HK.out]
    go_wp2_with (first | (go_at_call 116;refine (refword_any s _ hs2).mono ?_;rintro e w' ⟨rfl,rfl⟩) | (go_at_call 117;refine (refquoted_any s _ hs2).mono ?_;rintro e w' ⟨rfl,rfl⟩))
    go_returns
    exact ⟨_,_,rfl,by rw [HE.out],by rw [HE.out,HN.out],hb⟩
   ·have HD:Hid ((kinds ts ns).drop k=(false,ns.getD (k - ts.length) ByteArray.empty) :: (kinds ts ns).drop (k+1)):=kinds_non (by omega) hlt2
    have hkt:¬ (k:Int) < (ts.length:Int):=by omega
    have hsub:(k:Int) - (ts.length:Int)=((k - ts.length:Nat):Int):=by omega
    have hkn:((k - ts.length:Nat):Int) < (ns.length:Int):=by omega
    obtain ⟨q,off,rfl,hq,hc⟩:=hr2 (by intro h;subst h;simp at hlt hlt2;try omega)
    have h1:wr.cell? ⟨q,off+(k - ts.length),none⟩=some (.string (ns.getD (k - ts.length) ByteArray.empty)):=(hb.cell (p:=⟨q,off+(k - ts.length),none⟩) hq).trans (hc (k - ts.length) (by omega))
    have hs1:(ns.getD (k - ts.length) ByteArray.empty).size<=maxLen:=hz2 _ (by simp [List.getD,show (k - ts.length) < ns.length by omega])
    clear hc hr1 hr2 hz1 hz2
    generalize ns.getD (k - ts.length) ByteArray.empty=s at *
    have hs2:s.size<=9223372036854775807:=by unfold maxLen at hs1;omega
    by_cases hw:wordS s=true
    ·have HK:Hid (okS false s=true):=by unfold Hid okS;simp [hw]
     by_cases hin:inB sn s=true
     ·have HE:Hid (chk (kinds ts ns) []=((6:Int),(sn.length:Int))):=by
       unfold Hid
       rw [<- HF.out,HD.out]
       simp [chk,HK.out,hin]
      have hge:inS sn s ≥ 0:=inS_in hin
      go_wp2_with (first | (go_at_call 116;refine (refword_any s _ hs2).mono ?_;rintro e w' ⟨rfl,rfl⟩) | (go_at_call 117;refine (refquoted_any s _ hs2).mono ?_;rintro e w' ⟨rfl,rfl⟩) | (go_at_call 118;refine (in_gs hgs s hml).mono ?_;rintro e w' ⟨rfl,rfl⟩))
      go_returns
      exact ⟨_,_,rfl,by rw [HE.out],by rw [HE.out,HN.out],hb⟩
     ·have hnin:inB sn s=false:=by simpa using hin
      have HE:Hid (chk ((kinds ts ns).drop (k+1)) (sn++[s])=chk (kinds ts ns) []):=by
       unfold Hid
       rw [<- HF.out,HD.out]
       simp [chk,HK.out,hnin]
      have hno:inS sn s=-1:=inS_out hnin
      have hnA:GS (wr.alloc (.cells #[.string s] 9)) (.slice a6 sn.length c6) sn:=hgs.later (bAl wr _)
      have hy:(wr.alloc (.cells #[.string s] 9)).cell? ⟨wr.heap.size,0,none⟩=some (.string s):=by simp
      go_wp2_with (first | (go_at_call 116;refine (refword_any s _ hs2).mono ?_;rintro e w' ⟨rfl,rfl⟩) | (go_at_call 117;refine (refquoted_any s _ hs2).mono ?_;rintro e w' ⟨rfl,rfl⟩) | (go_at_call 118;refine (in_gs hgs s hml).mono ?_;rintro e w' ⟨rfl,rfl⟩) | (at_builtin;refine wpList_gs_append rfl _ _ rfl (.slice a6 sn.length c6) sn rfl hnA _ _ s rfl hy hle ?_;intro a4 n4 c4 w4 ho4 hg4;obtain rfl:=gs_cnt ho4))
      obtain ⟨r1,r2⟩:=grew_below (hb.alloc hb.size _) hfresh hg4
      go_roundw
      case rel=>exact ⟨k+1,sn++[s],by omega,by go_num,ho4,r2,r1,HE,by unfold Hid;rw [List.length_append,HN.out];rfl⟩
      case measure=>simp [intOf];omega
    have hw0:wordS s=false:=by simpa using hw
    have HK:Hid (okS false s=false):=by unfold Hid okS;simp [hw0]
    have HE:Hid (chk (kinds ts ns) []=((21:Int),(sn.length:Int))):=by
     unfold Hid
     rw [<- HF.out,HD.out]
     simp [chk,HK.out]
    go_wp2_with (first | (go_at_call 116;refine (refword_any s _ hs2).mono ?_;rintro e w' ⟨rfl,rfl⟩) | (go_at_call 117;refine (refquoted_any s _ hs2).mono ?_;rintro e w' ⟨rfl,rfl⟩))
    go_returns
    exact ⟨_,_,rfl,by rw [HE.out],by rw [HE.out,HN.out],hb⟩
  ·have HE:Hid (chk (kinds ts ns) []=((0:Int),(sn.length:Int))):=by
    unfold Hid
    rw [<- HF.out,List.drop_eq_nil_of_le (by simp [kinds];omega)]
    rfl
   have hki:¬ (k:Int) < (ts.length:Int)+(ns.length:Int):=by omega
   go_wp2
   go_returns
   exact ⟨_,_,rfl,by rw [HE.out],by rw [HE.out],hb⟩
theorem refcheck_any (a1 a2:Option Addr)(c1 c2 N1 N2:Nat)(ts ns:List ByteArray)(w:World)(e1:N1=ts.length)(e2:N2=ns.length)(hz1:∀ s∈ts,s.size<=maxLen)(hz2:∀ s∈ns,s.size<=maxLen)(hr1:StrRow w a1 ts)(hr2:StrRow w a2 ns) :
  Calls Tryz.prog 94 #[.slice a1 N1 c1,.slice a2 N2 c2] w fun e w'=>∃ er at_,e=.returned (.tuple #[.int .i64 er,.int .i64 at_])/\er=(cF_ ts ns).1/\at_=(cF_ ts ns).2/\Below w.heap.size w w':=by
 subst e1 e2
 by_cases k1:64 < ts.length
 ·have HE:Hid (cF_ ts ns=(31,0)):=by unfold Hid cF_;rw [if_pos k1]
  have k1':(ts.length:Int) > 64:=by omega
  go_enter Tryz.func94,Tryz.ntmps94
  go_wp2
  go_returns
  exact ⟨_,_,rfl,by rw [HE.out],by rw [HE.out],Below.refl _ _⟩
 by_cases k2:64 < ns.length
 ·have HE:Hid (cF_ ts ns=(32,0)):=by unfold Hid cF_;rw [if_neg k1,if_pos k2]
  have k1':¬ (ts.length:Int) > 64:=by omega
  have k2':(ns.length:Int) > 64:=by omega
  go_enter Tryz.func94,Tryz.ntmps94
  go_wp2
  go_returns
  exact ⟨_,_,rfl,by rw [HE.out],by rw [HE.out],Below.refl _ _⟩
 have:=refcheck_in a1 a2 c1 c2 ts ns w k1 k2 hz1 hz2 hr1 hr2
 rw [chk_is k1 k2] at this
 exact this
end Go.Proofs.YteciabdjkaackaaGreat
