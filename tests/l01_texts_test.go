package tests

import (
	"fmt"
	"strings"
	"testing"

	"loop.example/g01331/impl"
)

func TestGraphText(t *testing.T) {
	for x := range sampleTables {
		var edges []string
		for _, e := range x.edges() {
			edges = append(edges, fmt.Sprintf("%d-%d", e[0], e[1]))
		}
		want := fmt.Sprintf("%d:%s", len(x), strings.Join(edges, ","))
		if got := textOf(t, x.graph()); got != want {
			t.Errorf("GraphText = %s, want %s", got, want)
		}
	}
	for want, g := range map[string]impl.Graph{
		"1:":          {Size: 1, Rows: []int64{0}},
		"2:0-1":       {Size: 2, Rows: []int64{2, 1}},
		"3:0-1,0-2":   {Size: 3, Rows: []int64{6, 1, 1}},
		"12:0-11,2-3": {Size: 12, Rows: []int64{2048, 0, 8, 4, 0, 0, 0, 0, 0, 0, 0, 1}},
	} {
		if got := textOf(t, g); got != want {
			t.Errorf("GraphText = %s, want %s", got, want)
		}
	}
}

func TestParseGraph(t *testing.T) {
	for x := range sampleTables {
		var edges []string
		for _, e := range x.edges() {
			edges = append(edges, fmt.Sprintf("%d-%d", e[0], e[1]))
		}
		g, code := impl.ParseGraph(fmt.Sprintf("%d:%s", len(x), strings.Join(edges, ",")))
		wantGraph(t, "ParseGraph", g, code, x.graph())
	}
}

func TestParseGraphErrors(t *testing.T) {
	all := textOf(t, complement(t, newTable(62).graph()))
	for _, text := range []string{
		"", ":", "3", "0:", "63:", "-1:", "+3:", "03:", "00:", " 3:", "3 :", "3: ", "3:\n", "x:", "3::", ":0-1", "3;0-1", "3,0-1",
		"9223372036854775807:", "9223372036854775808:", "18446744073709551619:", "0x3:", "3.0:", "1_0:",
		"3:0", "3:-", "3:0-", "3:-1", "3:0--1", "3:,", "3:,0-1", "3:0-1,", "3:0-1,,0-2", "3:0-1;0-2", "3:0-1-2", "3:0-1 ", "3:0-1, 0-2", "3:0 -1",
		"3:1-0", "3:0-0", "3:0-3", "3:3-4", "3:0-1,0-1", "3:0-2,0-1", "3:1-2,0-1", "3:0-01", "3:00-1", "3:0-+1", "3:+0-1", "3:-0-1", "3:0-1:", "3:0-18446744073709551617",
		"1:0-1", "1:0-0", "62:0-62", "63:0-1", "3:0-1\x00", "\xff:", "3:0-\xff", "3:\xd9\xa0-1", "3:a-b",
		all + ",60-61", all + ",", all + "0", "62:" + strings.Repeat("0-1,", 4000) + "0-1", "3:" + strings.Repeat("0", 1<<20),
	} {
		what := text
		if len(what) > 40 {
			what = what[:40]
		}
		wantError(t, call("ParseGraph", what), impl.ErrSyntax, results(impl.ParseGraph(text))...)
	}
}
