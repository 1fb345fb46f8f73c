import Derived.Test.YtlfiohdhcmmjbaaGreatDoorPGG0ToGG1
import Derived.Test.YtlfiohdhcmmjbaaGreatDoorPTM26ToTM28
namespace Go.Proofs.YtlfiohdhcmmjbaaGreatDoor
set_option linter.unusedVariables false
set_option maxRecDepth 100000
set_option maxHeartbeats 16000000
open Go.RowKit
theorem samestrs_h (ao bo:Option Addr)(n m ca cb:Nat)(ss:List ByteArray)(w:World)(hn:n=ss.length)(hm:m=ss.length)(hl:ss.length<=140737488355328)(hr:StrRow w ao ss)(hs:StrRow w bo ss) :
  Calls Tryz.prog 42 #[.slice ao n ca,.slice bo m cb] w fun e w'=>e=.returned (.bool true)/\∃ d,w'=w.drewN d:=by
 subst hn hm
 have hb:((ss.length:Int) != ss.length)=false:=by simp
 go_enter Tryz.func42,Tryz.ntmps42
 go_wp2
 go_loopw [5] (fun i wr=>∃ k d:Nat,k<=ss.length/\i=.int .i64 k/\wr=w.drewN d) (fun i _=>ss.length - (intOf i).toNat)
 case atStart=>exact ⟨0,0,Nat.zero_le _,rfl,rfl⟩
 case round =>
  obtain ⟨k,d,hk,rfl,rfl⟩:=hrel
  by_cases hlt:k < ss.length
  ·obtain ⟨b,off,rfl,_,hc⟩:=hr (by intro h;subst h;simp at hlt)
   obtain ⟨b2,off2,rfl,_,hc2⟩:=hs (by intro h;subst h;simp at hlt)
   have h1:=hc k hlt
   have h2:=hc2 k hlt
   clear hc hc2 hr hs
   generalize ss.getD k ByteArray.empty=x at *
   have het:(x.toList != x.toList)=false:=by simp
   go_wp2
   go_quiet (fail)
   go_wp2
   go_roundw
   case rel=>exact ⟨k+1,_,by omega,by go_num,rfl⟩
   case measure=>simp [intOf];omega
  ·go_wp2
   go_ret
   exact ⟨rfl,_,rfl⟩
theorem samesyms_h (ao bo:Option Addr)(n m ca cb:Nat)(l:List (Int×Int))(w:World)(hn:n=l.length)(hm:m=l.length)(hl:l.length<=140737488355328)(hr:SymRow w ao l)(hs:SymRow w bo l) :
  Calls Tryz.prog 18 #[.slice ao n ca,.slice bo m cb] w fun e w'=>e=.returned (.bool true)/\∃ d,w'=w.drewN d:=by
 subst hn hm
 have hb:((l.length:Int) != l.length)=false:=by simp
 go_enter Tryz.func18,Tryz.ntmps18
 go_wp2
 go_loopw [5] (fun i wr=>∃ k d:Nat,k<=l.length/\i=.int .i64 k/\wr=w.drewN d) (fun i _=>l.length - (intOf i).toNat)
 case atStart=>exact ⟨0,0,Nat.zero_le _,rfl,rfl⟩
 case round =>
  obtain ⟨k,d,hk,rfl,rfl⟩:=hrel
  by_cases hlt:k < l.length
  ·obtain ⟨b,off,rfl,_,hc⟩:=hr (by intro h;subst h;simp at hlt)
   obtain ⟨b2,off2,rfl,_,hc2⟩:=hs (by intro h;subst h;simp at hlt)
   obtain ⟨h1,h2⟩:=hc k hlt
   obtain ⟨h3,h4⟩:=hc2 k hlt
   clear hc hc2 hr hs
   generalize l.getD k (0,0)=q at *
   obtain ⟨q1,q2⟩:=q
   simp only at h1 h2 h3 h4
   have e1:(q1 == q1)=true:=by simp
   have e2:(q2 == q2)=true:=by simp
   go_wp2
   go_quiet (fail)
   go_wp2
   go_roundw
   case rel=>exact ⟨k+1,_,by omega,by go_num,rfl⟩
   case measure=>simp [intOf];omega
  ·go_wp2
   go_ret
   exact ⟨rfl,_,rfl⟩
theorem sametrees_h (a b:Option Addr)(c d:Nat)(w:World):Calls Tryz.prog 49 #[.slice a 0 c,.slice b 0 d] w fun e w'=>e=.returned (.bool true)/\w'=w:=by
 go_enter Tryz.func49,Tryz.ntmps49
 go_wp2
 go_loop [5] (fun i=>i=.int .i64 0) (fun _=>0)
 case atStart=>rfl
 case round =>
  subst hrel
  go_wp2
  go_ret
  exact ⟨rfl,rfl⟩
theorem HE.strRows {w:World}{e:HE}(h:e.At w)(ht:e.t=9/\e.sz=1/\∃ zs:List ByteArray,e.cs=zs.map Value.string):∃ zs:List ByteArray,e.N=zs.length/\∀ n,StrRow (w.drewN n) (some ⟨e.g,0,none⟩) zs/\StrRow (w.drewN n) e.a zs:=by
 obtain ⟨t1,t2,zs,hz⟩:=ht
 obtain ⟨t,sz,g,N,a,c,cs⟩:=e
 simp only at t1 t2 hz
 subst t1 t2 hz
 have hN:N=zs.length:=by have:=h.len;simpa using this.symm
 refine ⟨zs,hN,fun n=>?_⟩
 have hk:=h.later (bDn (Below.refl _ _) n)
 have hgs:GS (w.drewN n) (.slice a N c) zs:=by have:=hk.own;unfold GS;rw [<- hN];exact this
 obtain ⟨a',c',e,hr,_⟩:=hgs.row
 simp only [Value.slice.injEq] at e
 obtain ⟨rfl,_,_⟩:=e
 refine ⟨fun _=>⟨g,0,rfl,lt_of_block hk.hg,fun i hi=>?_⟩,hr⟩
 have hg':(w.drewN n).heap[g]?=some (.cells (zs.map Value.string).toArray 9 (0,0)):=hk.hg
 rw [Nat.zero_add,cQa hg']
 simp [List.getD,hi]
theorem HE.symRows {w:World}{e:HE}(h:e.At w)(ht:e.t=54/\e.sz=2/\∃ zs:List (Int×Int),e.cs=sCl zs):∃ zs:List (Int×Int),e.N=zs.length/\∀ n,SymRow (w.drewN n) (some ⟨e.g,0,none⟩) zs/\SymRow (w.drewN n) e.a zs:=by
 obtain ⟨t1,t2,zs,hz⟩:=ht
 obtain ⟨t,sz,g,N,a,c,cs⟩:=e
 simp only at t1 t2 hz
 subst t1 t2 hz
 have hN:N=zs.length:=by have:=h.len;simp only [symCells_len] at this;omega
 refine ⟨zs,hN,fun n=>?_⟩
 have hk:=h.later (bDn (Below.refl _ _) n)
 have hsy:SY (w.drewN n) (.slice a N c) zs:=by have:=hk.own;unfold SY;rw [<- hN];exact this
 exact ⟨FullS.row ⟨hk.hg⟩,hsy.row⟩
theorem HE.intRows {w:World}{e:HE}(h:e.At w)(ht:e.t=3/\e.sz=1/\∃ zs:List Int,e.cs=zs.map (Value.int .i64 ·)):∃ zs:List Int,e.N=zs.length/\∀ n,InRow (w.drewN n) (some ⟨e.g,0,none⟩) zs/\InRow (w.drewN n) e.a zs:=by
 obtain ⟨t1,t2,zs,hz⟩:=ht
 obtain ⟨t,sz,g,N,a,c,cs⟩:=e
 simp only at t1 t2 hz
 subst t1 t2 hz
 have hN:N=zs.length:=by have:=h.len;simpa using this.symm
 refine ⟨zs,hN,fun n=>?_⟩
 have hk:=h.later (bDn (Below.refl _ _) n)
 have hil:IL (w.drewN n) (.slice a N c) zs:=by have:=hk.own;unfold IL;rw [<- hN];exact this
 refine ⟨FullI.row ⟨hk.hg⟩,?_⟩
 intro hne
 rcases hil.2 with ⟨e,h0⟩ | ⟨g2,cap,cur,e,h1,h2,h3⟩
 ·exact absurd (List.eq_nil_of_length_eq_zero h0) hne
 ·have hc:=fun j x hx=>World.ownsRow.cells hil (g:=g2) (by rw [e];rfl) j x hx
  cases e
  refine ⟨g2,0,rfl,lt_of_block h2,fun i hi=>?_⟩
  have r1:=hc i (.int .i64 (zs.getD i 0)) (by simp [List.getD,hi])
  rw [aNn] at r1
  exact r1
theorem gintact (q:Nat)(V:Nat->Value)(ty:Nat->TypeId)(E:Nat->List HE)(w:World)(hG:HInv w q V ty E)(hS:StG E)(h1:(E 1).length<=5864062014720)(h2:(E 2).length<=5864062014720)(h4:(E 4).length<=5864062014720) :
  Calls Tryz.prog 19 #[.pointer (some ⟨q,0,none⟩)] w fun e w'=>e=.returned (.bool true)/\Below w.heap.size w w':=by
 have hemp:∀ i,i / 2≠1->i / 2≠2->i / 2≠4->True->∃ a c,V i=.slice a 0 c:=fun i h0 h1 h2 _=>by
  have hr:=hG.row i
  have e:Go.Proofs.YtlfiohdhcmmjbaaGreatDoor.hS E i=[]:=by unfold Go.Proofs.YtlfiohdhcmmjbaaGreatDoor.hS;rw [hS.no _ h0 h1 h2];simp
  rw [e] at hr
  exact hr.slice
 have HG:Hid (HInv w q V ty E):=hG
 obtain ⟨a0,c0,v0⟩:=hemp 0 (by decide) (by decide) (by decide) trivial
 have k0:=hG.cell (i:=0) (by omega)
 rw [v0] at k0
 obtain ⟨a1,c1,v1⟩:=hemp 1 (by decide) (by decide) (by decide) trivial
 have k1:=hG.cell (i:=1) (by omega)
 rw [v1] at k1
 have k2:=hG.cell (i:=2) (by omega)
 have R2:=hG.row 2
 obtain ⟨a2,c2,v2⟩:=R2.slice
 rw [show (Go.Proofs.YtlfiohdhcmmjbaaGreatDoor.hS E 2).length=(E 1).length by show ((E 1).map HE.fst).length=_;simp] at v2
 rw [v2] at k2
 have R4:=hG.row 4
 obtain ⟨a4,c4,v4⟩:=R4.slice
 rw [show (Go.Proofs.YtlfiohdhcmmjbaaGreatDoor.hS E 4).length=(E 2).length by show ((E 2).map HE.fst).length=_;simp] at v4
 clear hG R4 R2
 go_enter Tryz.func19,Tryz.ntmps19
 go_wp2
 go_loop [3] (fun i=>i=.int .i64 0) (fun _=>0)
 case atStart=>rfl
 case round =>
  subst hrel
  go_wp2
  go_loopw [4] (fun i wr=>∃ (j:Nat),i=.int .i64 j/\j<=(E 1).length/\HInv wr q V ty E/\Below w.heap.size w wr) (fun i _=>(E 1).length - (intOf i).toNat)
  case atStart=>exact ⟨0,rfl,Nat.zero_le _,HG.out,Below.refl _ _⟩
  case round =>
   clear HG k0 k1 k2
   obtain ⟨j,rfl,hj,hG,hst⟩:=hrel
   have k2:=hG.cell (i:=2) (by omega)
   rw [v2] at k2
   by_cases hlt:j < (E 1).length
   ·obtain ⟨g,c,hLe,hcl⟩:=(hG.row 2).at j (E 1)[j].fst (by show ((E 1).map HE.fst)[j]?=_;simp [hlt])
    obtain ⟨g2,c2,hWe,hcw⟩:=(hG.row 3).at j (E 1)[j].snd (by show ((E 1).map HE.snd)[j]?=_;simp [hlt])
    rw [show (Go.Proofs.YtlfiohdhcmmjbaaGreatDoor.hS E 3).length=(E 1).length by show ((E 1).map HE.snd).length=_;simp] at hWe
    have k3:=hG.cell (i:=3) (by omega)
    rw [hWe] at k3
    rw [v2] at hLe
    simp only [Value.slice.injEq] at hLe
    obtain ⟨rfl,_,rfl⟩:=hLe
    obtain ⟨zs,hN,HR⟩:=HE.intRows (hG.at_ 1 _ (List.getElem_mem hlt)) (hS.int _ (List.getElem_mem hlt))
    have HL:Hid (zs.length<=140737488355328):=by have:=(hG.at_ 1 _ (List.getElem_mem hlt)).lim;show _<=_;omega
    generalize (E 1)[j]=x at *
    obtain ⟨xt,xz,xg,xN,xa,xc,xcs⟩:=x
    simp only [HE.fst,HE.snd] at hcl hcw hN HR
    subst hN
    have HR':Hid (∀ n,InRow (wr.drewN n) (some ⟨xg,0,none⟩) zs/\InRow (wr.drewN n) xa zs):=HR
    clear HR
    go_wp2
    go_quiet ((go_at_call 16;(exact Calls.quiet_of (sameints_g (some ⟨xg,0,none⟩) xa zs.length zs.length zs.length xc zs (wr.drewN _) rfl rfl HL.out (HR'.out _).1 (HR'.out _).2))))
    go_wp2
    go_roundw
    case rel=>exact ⟨j+1,by go_num,by omega,hG.later (bDn (Below.refl _ _) _),bDn hst _⟩
    case measure=>simp [intOf];omega
   ·have HG:Hid (HInv wr q V ty E):=hG
    have k4:=hG.cell (i:=4) (by omega)
    rw [v4] at k4
    clear hG
    obtain ⟨wz,rfl⟩:∃ wz:World,wz=wr:=⟨_,rfl⟩
    go_wp2
    go_loopw [5] (fun i wr=>∃ (j:Nat),i=.int .i64 j/\j<=(E 2).length/\HInv wr q V ty E/\Below w.heap.size w wr) (fun i _=>(E 2).length - (intOf i).toNat)
    case atStart=>exact ⟨0,rfl,Nat.zero_le _,HG.out,hst⟩
    case round =>
     clear HG k2 k4 hst hlt hj
     obtain ⟨j,rfl,hj,hG,hst⟩:=hrel
     have k4:=hG.cell (i:=4) (by omega)
     rw [v4] at k4
     by_cases hlt:j < (E 2).length
     ·obtain ⟨g,c,hLe,hcl⟩:=(hG.row 4).at j (E 2)[j].fst (by show ((E 2).map HE.fst)[j]?=_;simp [hlt])
      obtain ⟨g2,c2,hWe,hcw⟩:=(hG.row 5).at j (E 2)[j].snd (by show ((E 2).map HE.snd)[j]?=_;simp [hlt])
      rw [show (Go.Proofs.YtlfiohdhcmmjbaaGreatDoor.hS E 5).length=(E 2).length by show ((E 2).map HE.snd).length=_;simp] at hWe
      have k5:=hG.cell (i:=5) (by omega)
      rw [hWe] at k5
      rw [v4] at hLe
      simp only [Value.slice.injEq] at hLe
      obtain ⟨rfl,_,rfl⟩:=hLe
      obtain ⟨zs,hN,HR⟩:=HE.strRows (hG.at_ 2 _ (List.getElem_mem hlt)) (hS.str _ (List.getElem_mem hlt))
      have HL:Hid (zs.length<=140737488355328):=by have:=(hG.at_ 2 _ (List.getElem_mem hlt)).lim;show _<=_;omega
      generalize (E 2)[j]=x at *
      obtain ⟨xt,xz,xg,xN,xa,xc,xcs⟩:=x
      simp only [HE.fst,HE.snd] at hcl hcw hN HR
      subst hN
      have HR':Hid (∀ n,StrRow (wr.drewN n) (some ⟨xg,0,none⟩) zs/\StrRow (wr.drewN n) xa zs):=HR
      clear HR
      go_wp2
      go_quiet ((go_at_call 42;(exact Calls.quiet_of (samestrs_h (some ⟨xg,0,none⟩) xa zs.length zs.length zs.length xc zs (wr.drewN _) rfl rfl HL.out (HR'.out _).1 (HR'.out _).2))))
      go_wp2
      go_roundw
      case rel=>exact ⟨j+1,by go_num,by omega,hG.later (bDn (Below.refl _ _) _),bDn hst _⟩
      case measure=>simp [intOf];omega
     ·have HG:Hid (HInv wr q V ty E):=hG
      obtain ⟨a6,c6,v6⟩:=hemp 6 (by decide) (by decide) (by decide) trivial
      have k6:=hG.cell (i:=6) (by omega)
      rw [v6] at k6
      have k8:=hG.cell (i:=8) (by omega)
      obtain ⟨a8,c8,v8⟩:=(hG.row 8).slice
      rw [show (Go.Proofs.YtlfiohdhcmmjbaaGreatDoor.hS E 8).length=(E 4).length by show ((E 4).map HE.fst).length=_;simp] at v8
      rw [v8] at k8
      clear hG
      go_wp2
      go_loop [6] (fun i=>i=.int .i64 0) (fun _=>0)
      case atStart=>rfl
      case round =>
       subst hrel
       go_wp2
       obtain ⟨wo,rfl⟩:∃ wo:World,wo=wr:=⟨_,rfl⟩
       go_loopw [7] (fun i wr=>∃ (j:Nat),i=.int .i64 j/\j<=(E 4).length/\HInv wr q V ty E/\Below w.heap.size w wr) (fun i _=>(E 4).length - (intOf i).toNat)
       case atStart=>exact ⟨0,rfl,Nat.zero_le _,HG.out,hst⟩
       case round =>
        clear HG k6 k8 k4 hst hlt hj
        obtain ⟨j,rfl,hj,hG,hst⟩:=hrel
        have k8:=hG.cell (i:=8) (by omega)
        rw [v8] at k8
        by_cases hlt:j < (E 4).length
        ·obtain ⟨g,c,hLe,hcl⟩:=(hG.row 8).at j (E 4)[j].fst (by show ((E 4).map HE.fst)[j]?=_;simp [hlt])
         obtain ⟨g2,c2,hWe,hcw⟩:=(hG.row 9).at j (E 4)[j].snd (by show ((E 4).map HE.snd)[j]?=_;simp [hlt])
         rw [show (Go.Proofs.YtlfiohdhcmmjbaaGreatDoor.hS E 9).length=(E 4).length by show ((E 4).map HE.snd).length=_;simp] at hWe
         have k9:=hG.cell (i:=9) (by omega)
         rw [hWe] at k9
         rw [v8] at hLe
         simp only [Value.slice.injEq] at hLe
         obtain ⟨rfl,_,rfl⟩:=hLe
         obtain ⟨zs,hN,HR⟩:=HE.symRows (hG.at_ 4 _ (List.getElem_mem hlt)) (hS.sym _ (List.getElem_mem hlt))
         have HL:Hid (zs.length<=140737488355328):=by have:=(hG.at_ 4 _ (List.getElem_mem hlt)).lim;show _<=_;omega
         generalize (E 4)[j]=x at *
         obtain ⟨xt,xz,xg,xN,xa,xc,xcs⟩:=x
         simp only [HE.fst,HE.snd] at hcl hcw hN HR
         subst hN
         have HR':Hid (∀ n,SymRow (wr.drewN n) (some ⟨xg,0,none⟩) zs/\SymRow (wr.drewN n) xa zs):=HR
         clear HR
         go_wp2
         go_quiet ((go_at_call 18;(exact Calls.quiet_of (samesyms_h (some ⟨xg,0,none⟩) xa zs.length zs.length zs.length xc zs (wr.drewN _) rfl rfl HL.out (HR'.out _).1 (HR'.out _).2))))
         go_wp2
         go_roundw
         case rel=>exact ⟨j+1,by go_num,by omega,hG.later (bDn (Below.refl _ _) _),bDn hst _⟩
         case measure=>simp [intOf];omega
        ·have hgo:=hlt
         obtain ⟨a10,c10,v10⟩:=hemp 10 (by decide) (by decide) (by decide) trivial
         have k10:=hG.cell (i:=10) (by omega)
         rw [v10] at k10
         obtain ⟨a12,c12,v12⟩:=hemp 12 (by decide) (by decide) (by decide) trivial
         have k12:=hG.cell (i:=12) (by omega)
         rw [v12] at k12
         obtain ⟨a14,c14,v14⟩:=hemp 14 (by decide) (by decide) (by decide) trivial
         have k14:=hG.cell (i:=14) (by omega)
         rw [v14] at k14
         obtain ⟨a16,c16,v16⟩:=hemp 16 (by decide) (by decide) (by decide) trivial
         have k16:=hG.cell (i:=16) (by omega)
         rw [v16] at k16
         obtain ⟨a18,c18,v18⟩:=hemp 18 (by decide) (by decide) (by decide) trivial
         have k18:=hG.cell (i:=18) (by omega)
         rw [v18] at k18
         obtain ⟨a20,c20,v20⟩:=hemp 20 (by decide) (by decide) (by decide) trivial
         have k20:=hG.cell (i:=20) (by omega)
         rw [v20] at k20
         obtain ⟨a21,c21,v21⟩:=hemp 21 (by decide) (by decide) (by decide) trivial
         have k21:=hG.cell (i:=21) (by omega)
         rw [v21] at k21
         clear hG
         go_wp2
         go_loop [8] (fun i=>i=.int .i64 0) (fun _=>0)
         case atStart=>rfl
         case round =>
          subst hrel
          go_wp2
          go_loop [9] (fun i=>i=.int .i64 0) (fun _=>0)
          case atStart=>rfl
          case round =>
           subst hrel
           go_wp2
           go_loop [10] (fun i=>i=.int .i64 0) (fun _=>0)
           case atStart=>rfl
           case round =>
            subst hrel
            go_wp2
            go_loop [11] (fun i=>i=.int .i64 0) (fun _=>0)
            case atStart=>rfl
            case round =>
             subst hrel
             go_wp2
             go_loop [12] (fun i=>i=.int .i64 0) (fun _=>0)
             case atStart=>rfl
             case round =>
              subst hrel
              go_wp2
              go_quiet ((go_at_call 49;(exact Calls.quiet_of_same (sametrees_h _ _ _ _ _))))
              go_wp2
              go_ret
              exact ⟨rfl,bDn hst _⟩
abbrev gvBoxT:Obj:=.cells #[hNil,hNil,hNil,hNil,hNil,hNil,hNil,hNil,hNil,hNil,hNil,hNil,hNil,hNil,hNil,hNil,hNil,hNil,hNil,hNil,hNil,hNil] 39
theorem hg_newT (B:Nat)(w0 w:World)(hb:Below B w0 w)(hB:B<=w.heap.size):HG B w0 (w.alloc (.cells #[hNil,hNil,hNil,hNil,hNil,hNil,hNil,hNil,hNil,hNil,hNil,hNil,hNil,hNil,hNil,hNil,hNil,hNil,hNil,hNil,hNil,hNil] 39)) w.heap.size (fun _=>hNil) (fun _=>[]) 0 0 0 :=
 ⟨hnew w tyG tyG_q,(fun i k hk=>by cases hk),hB,hb.trans ((bAl w _).mono hB),Nat.le_trans hB (bAl w _).size,⟨(fun e he=>by cases he),(fun e he=>by cases he),(fun e he=>by cases he),(fun _ _ _ _=>rfl)⟩,rfl,rfl,rfl⟩
structure TW (g x:GV)(w:World)(V:Nat->Value)(E:Nat->List HE)(n1:Nat)(wr:World):Prop where
 bel:Below w.heap.size w wr
 box:wr.heap[w.heap.size]?=some (gBox g)
 hg:HG (w.heap.size+1) (w.alloc (gBox g)) wr (w.heap.size+1) V E n1 (0+2) (0+g.ps.length)
 same:SameG g x
 gx:GX wr x
theorem blk_later {w w':World}{b:Nat}{o:Obj}(h:w.heap[b]?=some o)(hb:Below w.heap.size w w'):w'.heap[b]?=some o:=(hb.block b (lt_of_block h)).trans h
theorem TW.later {g x:GV}{w wr w':World}{V:Nat->Value}{E:Nat->List HE}{n1:Nat}(h:TW g x w V E n1 wr)(hb:Below wr.heap.size wr w'):TW g x w V E n1 w' :=
 ⟨h.bel.trans (hb.mono h.bel.size),blk_later h.box hb,h.hg.later hb,h.same,h.gx.later hb⟩
theorem atB {X w':World}(_:Below X.heap.size X w'){Φ:World->Prop}{W:World}(h:∀ wr,Below W.heap.size W wr->Φ wr)(hb:Below W.heap.size W X):Φ X:=h X hb
open Go.RowKit Go.Shelf
structure TL (g x:GV)(w:World)(V:Nat->Value)(E:Nat->List HE)(b1:Nat)(A:List (Option Addr×List Int))(Y:List (Option Addr×List (Int×Int)))(S:List (Nat×Int×Int))(wr:World):Prop where
 tw:TW g x w V E (0+g.ls.length) wr
 bx:wr.heap[b1]?=some (gBox x)
 ro:∀ q∈A,InRow wr q.1 q.2
 so:∀ q∈Y,SymRow wr q.1 q.2
 bo:∀ q∈S,wr.heap[q.1]?=some (.cells #[.int .i64 q.2.1,.int .i64 q.2.2] 54)
section
variable {g x:GV} {w wr w':World} {V:Nat->Value} {E:Nat->List HE} {b1:Nat} {A:List (Option Addr×List Int)} {Y:List (Option Addr×List (Int×Int))} {S:List (Nat×Int×Int)}
end
end Go.Proofs.YtlfiohdhcmmjbaaGreatDoor
