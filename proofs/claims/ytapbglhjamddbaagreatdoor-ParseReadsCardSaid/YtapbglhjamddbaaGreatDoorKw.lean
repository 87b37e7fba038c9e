/- A part of the proof. -/
import Derived.Test.YtapbglhjamddbaaGreatDoorKv
import Derived.Test.YtapbglhjamddbaaGreatDoorKb
import Derived.Maps.OwnSet
import Derived.Maps.OwnOps
import Derived.Lib.Fields
import Derived.Test.YtapbglhjamddbaaGreatDoorHd
namespace Go.Proofs.YtapbglhjamddbaaGreatDoor
open Go.RowKit
set_option maxRecDepth 100000
set_option maxHeartbeats 1000000 in
theorem ltextOf_any (O:Bs) (p:Option Addr) (n c:Nat) (u:Nat) (w:World) (base:Nat) (hO:OwnB w base (.slice p n c) (toJ O)) (hl:O.length≤2000) :
  Calls Tryz.prog 69 #[.slice p n c,.int .i64 (u:Int)] w fun e w'=>LRes (if 40<O.length then .err 5 0 else .tok 4 0 O u) e∧Below w.heap.size w w':=by
 obtain rfl:n=O.length:=by rw[OwnB.len hO,List.length_map]
 obtain⟨m,hm⟩:∃ m,m=O.length:=⟨_,rfl⟩
 have kb:∀ T:TypeId,(convert 108 9 (.slice p O.length c)).run Tryz.prog (w.alloc (.cells #[.int .i64 0,.int .i64 0,.int .i64 0,.string ⟨#[]⟩] T))=.ok (.string (bsB O)) (w.alloc (.cells #[.int .i64 0,.int .i64 0,.int .i64 0,.string ⟨#[]⟩] T)):=fun T=>conv_own (hO.later (ext_alloc (ext_refl _) _))
 obtain⟨S,hS⟩:∃ S,S=bsB O:=⟨_,rfl⟩
 have HS:=zH hS
 rw[← hm,← hS] at kb
 rw[← hm]
 clear hO hS
 by_cases h40:40<m
 ·rw[if_pos h40]
  have q:(m:Int) > 40:=by omega
  clear hm
  go_enter Tryz.func69,Tryz.ntmps69
  go_wp2_with fail
  refine bodyPost_ret (v:=.tuple #[.agg #[.int .i64 0,.int .i64 0,.int .i64 0,.string ⟨#[]⟩],.int .i64 0,.int .i64 5]) (by simp[results,Tryz.results69,go_sem]) rfl ⟨rfl,?_⟩
  (repeat (first | exact ext_refl _ | assumption |(refine ext_alloc ?_ _) |(refine ext_drewN ?_ _) | refine ext_drew ?_ |(refine ext_set (by first |(simp;done) |(simp;omega)) _ ?_) |(refine ext_trans ?_ (by assumption))))
 ·rw[if_neg h40]
  have q:¬ (m:Int) > 40:=by omega
  clear hm
  go_enter Tryz.func69,Tryz.ntmps69
  go_wp2_with fail
  refine bodyPost_ret (v:=.tuple #[.agg #[.int .i64 4,.int .i64 0,.int .i64 0,.string S],.int .i64 (u:Int),.int .i64 0]) (by simp[results,Tryz.results69,go_sem]) rfl ⟨by rw[HS.out];rfl,?_⟩
  (repeat (first | exact ext_refl _ | assumption |(refine ext_alloc ?_ _) |(refine ext_drewN ?_ _) | refine ext_drew ?_ |(refine ext_set (by first |(simp;done) |(simp;omega)) _ ?_) |(refine ext_trans ?_ (by assumption))))
set_option maxHeartbeats 4000000 in
theorem ltext_any (s:ByteArray) (w:World) (hs:s.size≤2000) (r:Bs) (hr:s.data.toList=39 :: r) :
  Calls Tryz.prog 46 #[.string s] w fun e w'=>LRes (oneText r) e∧Below w.heap.size w w':=by
 have hsl:s.data.toList.length=s.size:=Array.length_toList
 have h1:1≤s.size:=by rw[← hsl,hr];simp
 have hrl:r.length+1=s.size:=by rw[← hsl,hr];simp
 have hr1:r=s.data.toList.drop 1:=by rw[hr];rfl
 clear hr
 have R0:=zH (TK.new w 0 0 0 ⟨#[]⟩ 55)
 obtain⟨W,hW⟩:∃ W,W=w.alloc (.cells #[.int .i64 0,.int .i64 0,.int .i64 0,.string ⟨#[]⟩] 55):=⟨_,rfl⟩
 rw[← hW] at R0
 have BW:Below w.heap.size w W:=by rw[hW];(repeat (first | exact ext_refl _ | assumption |(refine ext_alloc ?_ _) |(refine ext_drewN ?_ _) | refine ext_drew ?_ |(refine ext_set (by first |(simp;done) |(simp;omega)) _ ?_) |(refine ext_trans ?_ (by assumption))))
 have HB:=zH BW
 go_enter Tryz.func46,Tryz.ntmps46
 go_wp2_with fail
 rw[← hW]
 clear hW BW
 obtain⟨r0,hr0⟩:∃ r0,r0=textOf r:=⟨_,rfl⟩
 have HR0:=zH hr0
 have HR1:=zH hr1
 clear hr0 hr1
 go_loopw [6,5] (fun vj vo wr=>∃ (j:Nat) (O:Bs),vj=.int .i64 j∧1≤j∧j≤s.size∧O.length≤j∧Hid (OwnB wr W.heap.size vo (toJ O)∧Below W.heap.size W wr∧r0=(textOf (s.data.toList.drop j)).map fun x=>(O++x.1,x.2+(j - 1)))) (fun vj _ _=>s.size - (intOf vj).toNat)
 case atStart=>exact⟨1,[],by go_num,by omega,by omega,by simp,OwnB.nil _ _,Below.refl _ _,by rw[HR0.out,HR1.out];cases textOf (s.data.toList.drop 1) <;> rfl⟩
 case round =>
  obtain⟨j,O,rfl,hj1,hj2,hO,HH⟩:=hrel
  obtain⟨V,hV⟩:∃ V,V=wr:=⟨_,rfl⟩
  rw[← hV] at HH
  rw[← hV]
  clear hV
  have RV:=zH (R0.out.on HH.out.2.1)
  by_cases hlt:j<s.size
  ·obtain⟨c,hc⟩:∃ c,s.data.toList[j]?=some c:=⟨_,List.getElem?_eq_getElem (by rw[hsl];exact hlt)⟩
   obtain⟨q4,q5⟩:=byt_data hc
   have ec:=(byt_at s j q4).trans q5
   have hdc:s.data.toList.drop j=c :: s.data.toList.drop (j+1):=by
    obtain⟨h1,rfl⟩:=List.getElem?_eq_some_iff.1 hc
    exact List.drop_eq_getElem_cons h1
   by_cases h39:c=39
   ·subst h39
    have ec2:((s[j]'q4).toNat:Int)=39:=ec
    clear ec
    have HO:=HH.out.1
    by_cases hj1s:j+1<s.size
    ·obtain⟨d,hd⟩:∃ d,s.data.toList[j+1]?=some d:=⟨_,List.getElem?_eq_getElem (by rw[hsl];exact hj1s)⟩
     obtain⟨e4,e5⟩:=byt_data hd
     have ed:=(byt_at s (j+1) e4).trans e5
     have hne:((j:Int)+1 == (s.size:Int))=false:=by rw[beq_eq_false_iff_ne];omega
     have hdd:s.data.toList.drop (j+1)=d :: s.data.toList.drop (j+2):=by
      obtain⟨h1,rfl⟩:=List.getElem?_eq_some_iff.1 hd
      exact List.drop_eq_getElem_cons h1
     clear hd e5
     by_cases hd39:d=39
     ·subst hd39
      have ed2:((s[j+1]'e4).toNat:Int)=39:=ed
      clear ed
      have hnext:r0=(textOf (s.data.toList.drop (j+2))).map fun x=>(O++[39]++x.1,x.2+(j+2 - 1)):=by
       rw[HH.out.2.2,hdc,hdd,textOf_two,if_pos rfl,if_pos rfl]
       cases textOf (s.data.toList.drop (j+2)) with
       | none=>rfl
       | some x =>
        simp only[Option.map_some,List.append_assoc,List.singleton_append]
        rw[show x.2+2+(j - 1)=x.2+(j+2 - 1) by omega]
      have HN:=zH hnext
      obtain⟨vp,vn,vc,rfl⟩:=HO.slice
      clear hnext hdc hc q5 hdd
      go_wp2_with (at_builtin;refine wp_append_byte2 rfl _ _ rfl W.heap.size _ _ rfl (HO.later ?k1_2) 39 _ _ rfl ?k2_2 ?k3_2 ?k4_2 ?_)
      try (case k1_2=>((repeat (first | exact ext_refl _ | assumption |(refine ext_alloc ?_ _) |(refine ext_drewN ?_ _) | refine ext_drew ?_ |(refine ext_set (by first |(simp;done) |(simp;omega)) _ ?_) |(refine ext_trans ?_ (by assumption))))))
      try (case k2_2=>(simp[go_sem]))
      try (case k3_2=>(rw[List.length_map];omega))
      try (case k4_2=>(have:=HH.out.2.1.size;first | omega |(simp;omega)))
      intro v2 w2 HO2 hg2 hb2
      obtain⟨vp2,vn2,vc2,rfl⟩:=HO2.slice
      have hbn:Below W.heap.size W w2:=Below.trans (ext_alloc HH.out.2.1 _) hb2
      go_wp2
      go_roundw
      case rel=>exact⟨j+2,O++[39],by go_num,by omega,by omega,by rw[List.length_append];simp;omega,by rw[toJ_app];exact HO2,hbn,HN.out⟩
      case measure=>simp[intOf] <;> omega
     ·have m2:((d.toNat:Int) == 39)=false:=by
       rw[beq_eq_false_iff_ne]
       intro h
       exact hd39 (UInt8.toNat_inj.1 (by have:d.toNat=39:=(by omega);rw[this];rfl))
      have hbrk:textOf (s.data.toList.drop j)=some ([],1):=by rw[hdc,hdd,textOf_two,if_pos rfl,if_neg hd39]
      clear hd39 hdd
      have HO:=HH.out.1
      obtain⟨vp,vn,vc,rfl⟩:=HO.slice
      have hr:textOf r=some (O,j):=by rw[← HR0.out,HH.out.2.2,hbrk];simp;omega
      have HRR:=zH hr
      have CT:=zH (ltextOf_any O vp vn vc (j+1) V W.heap.size HO (by omega))
      have he:oneText r=if 40<O.length then .err 5 0 else .tok 4 0 O (j+1):=by unfold oneText;rw[HRR.out]
      have HE:=zH he
      clear hr hbrk HO hdc hc q5 he
      have hbF:Below w.heap.size w V:=HB.out.trans (HH.out.2.1.mono HB.out.size)
      have HBF:=zH hbF
      clear hbF
      by_cases h40:40<O.length
      ·rw[if_pos h40] at CT HE
       clear h40
       go_wp2_with fail
       refine (CT.out).mono ?_
       rintro e w2 ⟨rfl,hb2⟩
       obtain⟨lt,z0,z1,z2,z3,fz⟩:=RV.out.on hb2
       go_wp2_with fail
       refine bodyPost_ret (v:=.tuple #[.agg #[.int .i64 0,.int .i64 0,.int .i64 0,.string ⟨#[]⟩],.int .i64 0,.int .i64 5]) (by simp[results,Tryz.results46,go_sem, *]) rfl ⟨by rw[HE.out];rfl,?_⟩
       have hbG:=ext_trans HBF.out hb2
       (repeat (first | exact ext_refl _ | assumption |(refine ext_alloc ?_ _) |(refine ext_drewN ?_ _) | refine ext_drew ?_ |(refine ext_set (by first |(simp;done) |(simp;omega)) _ ?_) |(refine ext_trans ?_ (by assumption))))
      ·rw[if_neg h40] at CT HE
       clear h40
       go_wp2_with fail
       refine (CT.out).mono ?_
       rintro e w2 ⟨rfl,hb2⟩
       obtain⟨lt,z0,z1,z2,z3,fz⟩:=RV.out.on hb2
       go_wp2_with fail
       refine bodyPost_ret (v:=.tuple #[.agg #[.int .i64 4,.int .i64 0,.int .i64 0,.string (bsB O)],.int .i64 ((j:Int)+1),.int .i64 0]) (by simp[results,Tryz.results46,go_sem, *]) rfl ⟨by rw[HE.out];exact LRes.tok_of (by omega),?_⟩
       have hbG:=ext_trans HBF.out hb2
       (repeat (first | exact ext_refl _ | assumption |(refine ext_alloc ?_ _) |(refine ext_drewN ?_ _) | refine ext_drew ?_ |(refine ext_set (by first |(simp;done) |(simp;omega)) _ ?_) |(refine ext_trans ?_ (by assumption))))
    ·have hje:((j:Int)+1 == (s.size:Int))=true:=by rw[beq_iff_eq];omega
     have hbrk:textOf (s.data.toList.drop j)=some ([],1):=by
      rw[hdc,List.drop_eq_nil_of_le (by rw[hsl];omega)]
      rfl
     have HO:=HH.out.1
     obtain⟨vp,vn,vc,rfl⟩:=HO.slice
     have hr:textOf r=some (O,j):=by rw[← HR0.out,HH.out.2.2,hbrk];simp;omega
     have HRR:=zH hr
     have CT:=zH (ltextOf_any O vp vn vc (j+1) V W.heap.size HO (by omega))
     have he:oneText r=if 40<O.length then .err 5 0 else .tok 4 0 O (j+1):=by unfold oneText;rw[HRR.out]
     have HE:=zH he
     clear hr hbrk HO hdc hc q5 he
     have hbF:Below w.heap.size w V:=HB.out.trans (HH.out.2.1.mono HB.out.size)
     have HBF:=zH hbF
     clear hbF
     by_cases h40:40<O.length
     ·rw[if_pos h40] at CT HE
      clear h40
      go_wp2_with fail
      refine (CT.out).mono ?_
      rintro e w2 ⟨rfl,hb2⟩
      obtain⟨lt,z0,z1,z2,z3,fz⟩:=RV.out.on hb2
      go_wp2_with fail
      refine bodyPost_ret (v:=.tuple #[.agg #[.int .i64 0,.int .i64 0,.int .i64 0,.string ⟨#[]⟩],.int .i64 0,.int .i64 5]) (by simp[results,Tryz.results46,go_sem, *]) rfl ⟨by rw[HE.out];rfl,?_⟩
      have hbG:=ext_trans HBF.out hb2
      (repeat (first | exact ext_refl _ | assumption |(refine ext_alloc ?_ _) |(refine ext_drewN ?_ _) | refine ext_drew ?_ |(refine ext_set (by first |(simp;done) |(simp;omega)) _ ?_) |(refine ext_trans ?_ (by assumption))))
     ·rw[if_neg h40] at CT HE
      clear h40
      go_wp2_with fail
      refine (CT.out).mono ?_
      rintro e w2 ⟨rfl,hb2⟩
      obtain⟨lt,z0,z1,z2,z3,fz⟩:=RV.out.on hb2
      go_wp2_with fail
      refine bodyPost_ret (v:=.tuple #[.agg #[.int .i64 4,.int .i64 0,.int .i64 0,.string (bsB O)],.int .i64 ((j:Int)+1),.int .i64 0]) (by simp[results,Tryz.results46,go_sem, *]) rfl ⟨by rw[HE.out];exact LRes.tok_of (by omega),?_⟩
      have hbG:=ext_trans HBF.out hb2
      (repeat (first | exact ext_refl _ | assumption |(refine ext_alloc ?_ _) |(refine ext_drewN ?_ _) | refine ext_drew ?_ |(refine ext_set (by first |(simp;done) |(simp;omega)) _ ?_) |(refine ext_trans ?_ (by assumption))))
   ·have m1:((c.toNat:Int) == 39)=false:=by
     rw[beq_eq_false_iff_ne]
     intro h
     exact h39 (UInt8.toNat_inj.1 (by have:c.toNat=39:=(by omega);rw[this];rfl))
    have hnext:r0=(textOf (s.data.toList.drop (j+1))).map fun x=>(O++[c]++x.1,x.2+(j+1 - 1)):=by
     rw[HH.out.2.2,hdc,textOf_step h39]
     cases textOf (s.data.toList.drop (j+1)) with
     | none=>rfl
     | some x =>
      simp only[Option.map_some,List.append_assoc,List.singleton_append]
      rw[show x.2+1+(j - 1)=x.2+(j+1 - 1) by omega]
    have HN:=zH hnext
    have HO:=HH.out.1
    obtain⟨vp,vn,vc,rfl⟩:=HO.slice
    clear hnext hdc hc q5 h39
    go_wp2_with (at_builtin;refine wp_append_byte2 rfl _ _ rfl W.heap.size _ _ rfl (HO.later ?k1_1) (c.toNat:Int) _ _ rfl ?k2_1 ?k3_1 ?k4_1 ?_)
    try (case k1_1=>((repeat (first | exact ext_refl _ | assumption |(refine ext_alloc ?_ _) |(refine ext_drewN ?_ _) | refine ext_drew ?_ |(refine ext_set (by first |(simp;done) |(simp;omega)) _ ?_) |(refine ext_trans ?_ (by assumption))))))
    try (case k2_1=>(simp[go_sem]))
    try (case k3_1=>(rw[List.length_map];omega))
    try (case k4_1=>(have:=HH.out.2.1.size;first | omega |(simp;omega)))
    intro v2 w2 HO2 hg2 hb2
    obtain⟨vp2,vn2,vc2,rfl⟩:=HO2.slice
    have hbn:Below W.heap.size W w2:=Below.trans (ext_alloc HH.out.2.1 _) hb2
    go_wp2
    go_roundw
    case rel=>exact⟨j+1,O++[c],by go_num,by omega,hlt,by rw[List.length_append];simp;omega,by rw[toJ_app];exact HO2,hbn,HN.out⟩
    case measure=>simp[intOf] <;> omega
  ·have hje:j=s.size:=by omega
   have he:oneText r=.err 6 s.size:=by
    unfold oneText
    rw[← HR0.out,HH.out.2.2,List.drop_eq_nil_of_le (by rw[hsl];omega),← hrl]
    rfl
   have HE:=zH he
   obtain⟨lt,z0,z1,z2,z3,fz⟩:=RV.out
   have hbV:=HH.out.2.1
   clear he
   go_wp2_with fail
   refine bodyPost_ret (v:=.tuple #[.agg #[.int .i64 0,.int .i64 0,.int .i64 0,.string ⟨#[]⟩],.int .i64 (s.size:Int),.int .i64 6]) (by simp[results,Tryz.results46,go_sem, *]) rfl ⟨by rw[HE.out];rfl,?_⟩
   have hbF:Below w.heap.size w V:=HB.out.trans (hbV.mono HB.out.size)
   (repeat (first | exact ext_refl _ | assumption |(refine ext_alloc ?_ _) |(refine ext_drewN ?_ _) | refine ext_drew ?_ |(refine ext_set (by first |(simp;done) |(simp;omega)) _ ?_) |(refine ext_trans ?_ (by assumption))))
open Go.RowKit Go.Maps
set_option maxRecDepth 100000
theorem key_txt (s:ByteArray) (h:s.size≤9223372036854775807):keyOf Tryz.prog 9 (.string s)=some (.string s.data.toList):=Go.WideMaps.keyOf_string_mk Tryz.underlying9 (by unfold maxLen;omega)
theorem Tryz.lawTxt:Keyed Tryz.prog 9:=string_keyed Tryz.underlying9
theorem Tryz.zeroUnit (w:World):(zeroValue 113).run Tryz.prog w=.ok (.agg #[]) w:=by kernel_rfl
def WordsM (w:World) (b:Nat):Prop:=∃ D:DataW Unit,w.ownsMap Tryz.prog 9 (unitElem (H:=Unit)) b 100 D∧∀ x:Bs,Maps.has D (.string x)=decide (x∈lexWords)
theorem WordsM.ext {w w':World} {b n:Nat} (h:WordsM w b) (hb:Below n w w') (hn:b<n):WordsM w' b:=by
 obtain⟨D,⟨es,clock,hh,F,hs,hD⟩,h2⟩:=h
 exact⟨D,⟨es,clock,(hb.block b hn).trans hh,F,hs,hD⟩,h2⟩
theorem WordsM.lt {w:World} {b:Nat} (h:WordsM w b):b<w.heap.size:=by
 obtain⟨D,h1,_⟩:=h
 exact h1.lt
abbrev wordKeys:List Lit:=lexWords.map Lit.string
theorem words_has (x:Bs):Maps.has (setOf (.agg []:DataW Unit) wordKeys) (.string x)=decide (x∈lexWords):=by
 rw[has_setOf _ _ _ (fun y hy=>by obtain⟨z,_,rfl⟩:=List.mem_map.1 hy;trivial)]
 unfold wordKeys
 rw[List.any_map,Bool.eq_iff_iff,List.any_eq_true,decide_eq_true_eq]
 refine⟨?_,fun h=>⟨x,h,WideAt.sameKey_self (a:=.string x) trivial⟩⟩
 rintro⟨y,hy,h⟩
 have h2:(Lit.string y).sameKey (.string x)=true:=h
 have:=WideAt.sameKey_eq h2
 simp only[Lit.string.injEq] at this
 exact this ▸ hy
def wordsText:Bs:=[115,101,108,101,99,116,32,100,105,115,116,105,110,99,116,32,102,114,111,109,32,106,111,105,110,32,108,101,102,116,32,115,101,109,105,32,111,110,32,119,104,101,114,101,32,103,114,111,117,112,32,98,121,32,117,110,105,111,110,32,97,108,108,32,111,114,100,101,114,32,100,101,115,99,32,97,110,100,32,111,114,32,110,111,116,32,105,115,32,110,117,108,108,32,116,114,117,101,32,102,97,108,115,101,32,99,111,117,110,116,32,115,117,109,32,109,105,110,32,109,97,120]
theorem wordsText_fields:Lib.fields wordsText=lexWords:=by decide +kernel
theorem wordsText_ascii:∀ b∈wordsText,b.toNat<128:=by decide +kernel
theorem fields_words (w:World) (hG:GV w):Calls Tryz.prog 65 #[.string (bsB wordsText)] w fun e w' =>
  e=.returned (.slice (some ⟨w.heap.size,0,none⟩) 25 25)∧w'=w.alloc (.cells (lexWords.map fun l=>Value.string ⟨l.toArray⟩).toArray 9):=by
 have h:Calls Tryz.prog 65 #[.string (bsB wordsText)] w _:=Any.strings_Fields_core Tryz.lays157 (by kernel_rfl) (bsB wordsText) w (by decide +kernel) (fun j b hj=>wordsText_ascii b (List.mem_of_getElem? (by exact hj))) (fun c hc=>hG.sp c hc)
 refine h.mono ?_
 rintro e w' ⟨rfl,rfl⟩
 rw[show Lib.fields (bsB wordsText).data.toList=lexWords from wordsText_fields]
 exact⟨rfl,rfl⟩
set_option maxHeartbeats 2000000 in
theorem words_any (w:World) (hG:GV w):Calls Tryz.prog 38 #[] w fun e w'=>(∃ b,e=.returned (.map (some b))∧w.heap.size≤b∧WordsM w' b)∧Below w.heap.size w w':=by
 have hmm:=@run_makeMap Tryz.prog
 have hW:∀ j x,lexWords[j]?=some x→((w.alloc (.map #[] 0)).alloc (.cells (lexWords.map fun l=>Value.string ⟨l.toArray⟩).toArray 9)).cell? ⟨w.heap.size+1,j,none⟩=some (.string (bsB x)):=fun j x hx=>by
  have:(w.alloc (.map #[] 0)).heap.size=w.heap.size+1:=by simp
  rw[← this,World.cell?_alloc_new]
  simp[hx]
 go_enter Tryz.func38,Tryz.ntmps38
 go_wp2_with fail
 refine (fields_words _ (hG.alloc _)).mono ?_
 rintro e w1 ⟨rfl,hw1⟩
 rw[← hw1] at hW
 have hs1:w1.heap.size=w.heap.size+2:=by rw[hw1];simp
 have hbw:Below w.heap.size w w1:=by rw[hw1];(repeat (first | exact ext_refl _ | assumption |(refine ext_alloc ?_ _) |(refine ext_drewN ?_ _) | refine ext_drew ?_ |(refine ext_set (by first |(simp;done) |(simp;omega)) _ ?_) |(refine ext_trans ?_ (by assumption))))
 have hown:w1.ownsMap Tryz.prog 9 (unitElem (H:=Unit)) w.heap.size 0 (.map []):=by rw[hw1];exact (World.ownsMap_made _ _ _ _).alloc _
 have H0:=zH (And.intro hW (And.intro hbw hown))
 clear hW hbw hown hw1 hmm hG
 rw[show (w.alloc (.map #[] 0)).heap.size=w.heap.size+1 by simp]
 obtain⟨B,hB⟩:∃ B,B=w.heap.size:=⟨_,rfl⟩
 rw[← hB] at H0 hs1
 rw[← hB]
 have HBw:=zH hB
 clear hB
 go_wp2_with fail
 go_loopw [7] (fun va wr=>∃ i:Nat,va=.int .i64 i∧i≤25∧B+2≤wr.heap.size∧Hid (wr.ownsMap Tryz.prog 9 (unitElem (H:=Unit)) B i (setOf (.agg []) (wordKeys.take i))∧Below w.heap.size w wr∧∀ j x,lexWords[j]?=some x→wr.cell? ⟨B+1,j,none⟩=some (.string (bsB x)))) (fun va _=>25 - (intOf va).toNat)
 case atStart=>exact⟨0,by go_num,by omega,by omega,H0.out.2.2,by have:=HBw.out;subst this;exact H0.out.2.1,H0.out.1⟩
 case round =>
  obtain⟨i,rfl,hi,hsz,HR⟩:=hrel
  by_cases hlt:i<25
  ·obtain⟨c,hc⟩:∃ c,lexWords[i]?=some c:=⟨_,List.getElem?_eq_getElem (by exact hlt)⟩
   have hcl:c.length≤100:=by
    have:∀ x∈lexWords,x.length≤100:=by decide
    exact this c (List.mem_of_getElem? hc)
   have hcell:=HR.out.2.2 i c hc
   have hown:=HR.out.1
   obtain⟨S,hS⟩:∃ S,S=bsB c:=⟨_,rfl⟩
   rw[← hS] at hcell
   have hSl:S.size≤9223372036854775807:=by rw[hS];show c.length≤_;omega
   have HS:=zH hS
   have HC:=zH hc
   clear hS hc hcl
   go_wp2_with (at_mapUpdate;refine wpList_mapUpdate_own _ rfl _ _ _ 92 rfl 9 113 Tryz.lawTxt Tryz.underlying92 _ B i _ rfl hown (by unfold maxLen;omega) _ _ _ rfl rfl (key_txt S hSl) (.agg []) [] unitElem_mk ?_)
   intro w2 hown2 hg2
   have hk:∀ j,w2.cell? ⟨B+1,j,none⟩=wr.cell? ⟨B+1,j,none⟩:=fun j=>by
    have hb:=hg2.block (B+1) (by omega) (by simp)
    unfold World.cell?
    simp only[hb]
   have hsz2:B+2≤w2.heap.size:=Nat.le_trans hsz hg2.size
   have hBel:Below w.heap.size w w2:=(Out.below (S:=fun k=>k=B) (Out.grown hg2 (fun k hk=>(by simpa using hk.symm))) HR.out.2.1.size (fun k hk=>by rw[hk,HBw.out];exact Nat.le_refl _)) |> fun hb=>HR.out.2.1.trans hb
   have hown3:w2.ownsMap Tryz.prog 9 (unitElem (H:=Unit)) B (i+1) (setOf (.agg []) (wordKeys.take (i+1))):=by
    have e:wordKeys.take (i+1)=wordKeys.take i++[.string S.data.toList]:=by
     rw[List.take_add_one]
     unfold wordKeys
     rw[List.getElem?_map,HC.out,HS.out]
     rfl
    rw[e,setOf_snoc]
    exact hown2
   have HN:=zH (And.intro hown3 (And.intro hBel (fun j x hx=>(hk j).trans (HR.out.2.2 j x hx))))
   clear hown3 hBel hk hown2 hg2 hown hcell HR
   go_wp2
   go_roundw
   case rel=>exact⟨i+1,by go_num,by omega,hsz2,HN.out⟩
   case measure=>simp[intOf] <;> omega
  ·obtain rfl:i=25:=by omega
   have hM:WordsM wr B:=⟨_,HR.out.1.mono (by omega),fun x=>by rw[show wordKeys.take 25=wordKeys from rfl];exact words_has x⟩
   have hF:=HR.out.2.1
   have HF:=zH (And.intro hM hF)
   clear hM hF HR
   go_wp2_with fail
   refine bodyPost_ret (v:=.map (some B)) (by simp[results,Tryz.results38,go_sem]) rfl ⟨⟨B,rfl,by rw[HBw.out];exact Nat.le_refl _,HF.out.1⟩,HF.out.2⟩
set_option maxHeartbeats 2000000 in
theorem lword_any (s:ByteArray) (b:Nat) (w:World) (hW:WordsM w b) (hs:s.size≤2000) :
  Calls Tryz.prog 43 #[.string s,.map (some b)] w fun e w'=>LRes (oneWord s.data.toList) e∧Below w.heap.size w w':=by
 have hsl:s.data.toList.length=s.size:=Array.length_toList
 have hlen:=takeWhile_le isWordB s.data.toList
 obtain⟨D,hD⟩:∃ D,D=s.data.toList.takeWhile isWordB:=⟨_,rfl⟩
 have hD2:∀ b∈D,isWordB b=true:=fun b h=>while_all (by rw[← hD];exact h)
 obtain⟨k,hk⟩:∃ k,k=D.length:=⟨_,rfl⟩
 have hks:k≤s.size:=by rw[hk,hD];omega
 have hex:(s.extract 0 k).data.toList=D:=by rw[first_data,hk,hD,take_while]
 have hexs:(s.extract 0 k).size≤2000:=by rw[← show (s.extract 0 k).data.toList.length=(s.extract 0 k).size from Array.length_toList,hex,← hk];omega
 have C0:=zH (fun W=>span_part s W hs)
 have HO:oneWord s.data.toList=if 20<k then .err 5 0 else .tok (if D.map lower∈lexWords then 1 else 2) 0 (D.map lower) k:=by unfold oneWord;rw[← hD,hk]
 rw[← hD,← hk] at C0
 obtain⟨x,hx⟩:∃ x,x=s.extract 0 k:=⟨_,rfl⟩
 have HX:=zH hx
 rw[← hx] at hex hexs
 have CL:=fun W=>lower_any x W hexs (by rw[hex];exact hD2)
 rw[hex] at CL
 obtain⟨y,hy⟩:∃ y,y=D.map lower:=⟨_,rfl⟩
 have hyl:(bsB y).size≤9223372036854775807:=by rw[hy];show (D.map lower).length≤_;rw[List.length_map,← hk];omega
 rw[← hy] at CL HO
 have hWl:=hW.lt
 have HW:=zH hW
 clear hD hsl hlen hk hx hy hex hexs hD2 hW
 by_cases h20:20<k
 ·rw[HO,if_pos h20]
  have q:(k:Int) > 20:=by omega
  clear HO h20
  go_enter Tryz.func43,Tryz.ntmps43
  go_wp2_with fail
  refine (C0.out _).mono ?_
  rintro e w1 ⟨rfl,rfl⟩
  go_wp2_with fail
  refine bodyPost_ret (v:=.tuple #[.agg #[.int .i64 0,.int .i64 0,.int .i64 0,.string ⟨#[]⟩],.int .i64 0,.int .i64 5]) (by simp[results,Tryz.results43,go_sem, *]) rfl ⟨rfl,?_⟩
  (repeat (first | exact ext_refl _ | assumption |(refine ext_alloc ?_ _) |(refine ext_drewN ?_ _) | refine ext_drew ?_ |(refine ext_set (by first |(simp;done) |(simp;omega)) _ ?_) |(refine ext_trans ?_ (by assumption))))
 ·rw[HO,if_neg h20]
  have q:¬ (k:Int) > 20:=by omega
  clear HO h20
  by_cases hm:y∈lexWords
  ·rw[if_pos hm]
   have HM:=zH hm
   clear hm
   go_enter Tryz.func43,Tryz.ntmps43
   go_wp2_with fail
   refine (C0.out _).mono ?_
   rintro e w1 ⟨rfl,rfl⟩
   go_wp2_with fail
   rw[← HX.out]
   refine (CL _).mono ?_
   rintro e w2 ⟨rfl,hb2⟩
   obtain⟨lt,z0,z1,z2,z3,fz⟩:=(TK.new w 0 0 0 ⟨#[]⟩ 55).on hb2
   obtain⟨M,hown,hM⟩:=HW.out.ext (ext_trans (ext_alloc (ext_refl w) _) hb2) hWl
   have hh:Maps.has M (.string (bsB y).data.toList)=true:=by rw[hM];exact decide_eq_true HM.out
   have hM:=zH hM
   go_wp2_with (at_lookup;refine wpList_lookup_own_unit _ rfl _ _ 92 rfl 9 113 Tryz.lawTxt Tryz.underlying92 (Tryz.zeroUnit _) b 100 M rfl (hown.alloc _) _ _ rfl (key_txt (bsB y) hyl) ?_;rw[hh])
   refine bodyPost_ret (v:=.tuple #[.agg #[.int .i64 1,.int .i64 0,.int .i64 0,.string (bsB y)],.int .i64 (k:Int),.int .i64 0]) (by simp[results,Tryz.results43,go_sem, *]) rfl ⟨rfl,?_⟩
   (repeat (first | exact ext_refl _ | assumption |(refine ext_alloc ?_ _) |(refine ext_drewN ?_ _) | refine ext_drew ?_ |(refine ext_set (by first |(simp;done) |(simp;omega)) _ ?_) |(refine ext_trans ?_ (by assumption))))
  ·rw[if_neg hm]
   have HM:=zH hm
   clear hm
   go_enter Tryz.func43,Tryz.ntmps43
   go_wp2_with fail
   refine (C0.out _).mono ?_
   rintro e w1 ⟨rfl,rfl⟩
   go_wp2_with fail
   rw[← HX.out]
   refine (CL _).mono ?_
   rintro e w2 ⟨rfl,hb2⟩
   obtain⟨lt,z0,z1,z2,z3,fz⟩:=(TK.new w 0 0 0 ⟨#[]⟩ 55).on hb2
   obtain⟨M,hown,hM⟩:=HW.out.ext (ext_trans (ext_alloc (ext_refl w) _) hb2) hWl
   have hh:Maps.has M (.string (bsB y).data.toList)=false:=by rw[hM];exact decide_eq_false HM.out
   have hM:=zH hM
   go_wp2_with (at_lookup;refine wpList_lookup_own_unit _ rfl _ _ 92 rfl 9 113 Tryz.lawTxt Tryz.underlying92 (Tryz.zeroUnit _) b 100 M rfl (hown.alloc _) _ _ rfl (key_txt (bsB y) hyl) ?_;rw[hh])
   refine bodyPost_ret (v:=.tuple #[.agg #[.int .i64 2,.int .i64 0,.int .i64 0,.string (bsB y)],.int .i64 (k:Int),.int .i64 0]) (by simp[results,Tryz.results43,go_sem, *]) rfl ⟨rfl,?_⟩
   (repeat (first | exact ext_refl _ | assumption |(refine ext_alloc ?_ _) |(refine ext_drewN ?_ _) | refine ext_drew ?_ |(refine ext_set (by first |(simp;done) |(simp;omega)) _ ?_) |(refine ext_trans ?_ (by assumption))))
end Go.Proofs.YtapbglhjamddbaaGreatDoor
