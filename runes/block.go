package runes

import "strings"

// Block is a block text of raw lines.
func Block(s string) string {
	lines := splitLines(s)
	rest := lines[1:]
	least := leastIndent(rest)
	for i, line := range rest {
		rest[i] = line[min(least, indentOf(line)):]
	}
	return joinLines(trimBlank(lines))
}

// splitLines answers at least one line.
func splitLines(s string) []string {
	var lines []string
	begin := 0
	behind13 := false
	for i, c := range s {
		switch {
		case c == 10 && behind13:
			// 13 and 10 are one end: the line was cut at the 13.
			begin = i + 1
		case c == 10 || c == 13:
			lines = append(lines, s[begin:i])
			begin = i + 1
		}
		behind13 = c == 13
	}
	return append(lines, s[begin:])
}

// indentOf is how many blanks a line begins with.
func indentOf(line string) int {
	for i, c := range line {
		if c != 32 && c != 9 {
			return i
		}
	}
	return len(line)
}

func isBlank(line string) bool {
	return indentOf(line) == len(line)
}

// leastIndent is 0 where every line is blank: such lines have no say.
func leastIndent(lines []string) int {
	least := -1
	for _, line := range lines {
		if n := indentOf(line); n < len(line) && (least < 0 || n < least) {
			least = n
		}
	}
	return max(least, 0)
}

// trimBlank is the lines without the blank ones at both ends.
func trimBlank(lines []string) []string {
	for len(lines) > 0 && isBlank(lines[0]) {
		lines = lines[1:]
	}
	for len(lines) > 0 && isBlank(lines[len(lines)-1]) {
		lines = lines[:len(lines)-1]
	}
	return lines
}

func joinLines(lines []string) string {
	var out strings.Builder
	for i, line := range lines {
		if i > 0 {
			out.WriteByte(10)
		}
		out.WriteString(line)
	}
	return out.String()
}
