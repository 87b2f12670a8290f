package bin

import (
	"strings"

	"troupe/api"
	"troupe/leb"
	"troupe/nest"
)

// Write answers a module as bytes.
func Write(m api.Module) (string, api.Errno) {
	if err := Check(m); err != api.OK {
		return "", err
	}
	text := moduleText(m)
	if len(text) > api.MaxBytes {
		return "", api.ErrLarge
	}
	return text, api.OK
}

// moduleText counts on Check: all that it writes is in its bounds, its names and bodies have no error.
func moduleText(m api.Module) string {
	return head +
		listSection(typeSection, m.Types, sigText) +
		listSection(importSection, m.Imports, importText) +
		listSection(functionSection, m.Funcs, typeText) +
		tableText(m.Table) +
		memoryText(m.Pages, m.Most) +
		listSection(globalSection, m.Globals, globalText) +
		listSection(exportSection, m.Exports, exportText) +
		startText(m.Start) +
		listSection(elemSection, m.Elems, elemText) +
		listSection(codeSection, m.Funcs, codeText) +
		listSection(dataSection, m.Data, dataText)
}

func section(number byte, content string) string {
	return bytesText(number) + sized(content)
}

// listSection leaves the section out if nothing is in its list.
func listSection[T any](number byte, list []T, text func(T) string) string {
	if len(list) == 0 {
		return ""
	}
	return section(number, listText(list, text))
}

func listText[T any](list []T, text func(T) string) string {
	var out strings.Builder
	out.WriteString(numberText(len(list)))
	for _, x := range list {
		out.WriteString(text(x))
	}
	return out.String()
}

// sized answers how many bytes a text has, and these.
func sized(text string) string {
	return numberText(len(text)) + text
}

func sigText(s api.Sig) string {
	return bytesText(sigByte) + listText(s.In, kindText) + listText(s.Out, kindText)
}

func importText(i api.Import) string {
	return nameText(hostName) + nameText(i.Name) + bytesText(ofFunction) + numberText(i.Type)
}

func typeText(f api.Func) string {
	return numberText(f.Type)
}

func tableText(places int) string {
	if places == 0 {
		return ""
	}
	return section(tableSection, numberText(1)+bytesText(tableByte, noMost)+numberText(places))
}

func memoryText(pages, most int) string {
	if most == 0 {
		return ""
	}
	return section(memorySection, numberText(1)+bytesText(hasMost)+numberText(pages)+numberText(most))
}

func globalText(g api.Global) string {
	mut := byte(0)
	if g.Mut {
		mut = 1
	}
	return kindText(g.Kind) + bytesText(mut, constOf(g.Kind)) + leb.S(g.Start) + bytesText(api.OpEnd)
}

func exportText(e api.Export) string {
	return nameText(e.Name) + bytesText(ofFunction) + numberText(e.Func)
}

func startText(start int) string {
	if start == 0 {
		return ""
	}
	return section(startSection, numberText(start-1))
}

func elemText(e api.Elem) string {
	return placeText(e.At) + listText(e.Funcs, numberText)
}

func dataText(d api.Data) string {
	return placeText(d.At) + sized(d.Bytes)
}

// placeText is where a part of the table or of the memory begins.
func placeText(at int) string {
	return bytesText(onlyOne, api.OpConst32) + leb.S(int64(at)) + bytesText(api.OpEnd)
}

func codeText(f api.Func) string {
	body, _ := nest.Write(f.Body)
	return sized(listText(groups(f.Locals), groupText) + body)
}

// group is as many locals of one kind as stand one behind the other.
type group struct {
	size int
	kind api.Kind
}

func groups(kinds []api.Kind) []group {
	var out []group
	for i, kind := range kinds {
		if i == 0 || kind != kinds[i-1] {
			out = append(out, group{kind: kind})
		}
		out[len(out)-1].size++
	}
	return out
}

func groupText(g group) string {
	return numberText(g.size) + kindText(g.kind)
}

func nameText(name string) string {
	text, _ := leb.Name(name)
	return text
}

func kindText(kind api.Kind) string {
	return bytesText(byte(kind))
}

func numberText(n int) string {
	return leb.U(uint64(n))
}

func bytesText(bytes ...byte) string {
	return string(bytes)
}
